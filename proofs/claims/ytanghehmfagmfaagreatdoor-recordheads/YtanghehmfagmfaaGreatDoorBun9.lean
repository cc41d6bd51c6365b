/-
  Parts of this proof, one behind the other: Sha5, RefA, RefB.
-/
import Derived.Test.YtanghehmfagmfaaGreatDoorBun8
import Derived.Deep.RegionHeld3
import Derived.RegionTactic
import Derived.Test.YtanghehmfagmfaaGreatDoorBun4

/-
  The contract of package digest's compressed.
-/
namespace Go.Proofs.YtanghehmfagmfaaGreatDoor
open Go.RowKit
set_option linter.unusedVariables false
set_option maxRecDepth 100000

theorem mix_at (p o : List Int) (j : Nat) (hp : p.length = o.length) (hj : j < o.length) : (p.take j ++ o.drop j).getD j 0 = o.getD j 0 := by
  rw [List.getD_eq_getElem?_getD, List.getD_eq_getElem?_getD, List.getElem?_append_right (by simp; omega)]
  simp only [List.length_take, List.getElem?_drop]
  rw [show min j p.length = j from by omega]
  simp
theorem mix_set (p o : List Int) (j : Nat) (v : Int) (hp : p.length = o.length) (hj : j < o.length) (hv : p.getD j 0 = v) : (p.take j ++ o.drop j).set j v = p.take (j + 1) ++ o.drop (j + 1) := by
  have hpv : p[j]'(by omega) = v := by rw [← hv, List.getD_eq_getElem?_getD, List.getElem?_eq_getElem (by omega)]; rfl
  rw [List.set_append_right _ _ (by simp; omega), List.take_succ_eq_append_getElem (by omega), List.drop_eq_getElem_cons hj, hpv]
  simp only [List.length_take, List.append_assoc]
  rw [show j - min j p.length = 0 from by omega]
  rfl
theorem mix_len (p o : List Int) (j : Nat) (hp : p.length = o.length) (hj : j ≤ o.length) : (p.take j ++ o.drop j).length = o.length := by simp; omega
theorem run_index_arr {P : Program} {t e : TypeId} {n : Nat} {k : IntKind} (cs : Array Value) (i : Int) (j : Nat) (v : Value) (w : World) (hi : i = j) (hj : j < n) (hv : cs[j]? = some v) (ht : P.underlying t = some (.array n e)) (hu : P.underlying e = some (.int k)) (hs : (P.info? e).map (·.size) = some 1) :
    (Instr.index t (.agg cs) (.int .i64 i)).run P w = .ok v w := by
  subst hi
  have hagg : (isAgg e).run P w = .ok false w := by
    unfold isAgg
    rw [Sem.run_bind, run_underlying hu w]
    rfl
  have h0 : (0 : Int) ≤ (j : Int) ∧ (j : Int) < (n : Int) := by omega
  simp only [Instr.index, asIntOf, Sem.run_bind, Sem.run_pure, Result.andThen_ok, run_underlying ht w]
  rw [if_pos h0]
  simp only [Sem.run_bind, run_sizeOf hs, Result.andThen_ok, part, hagg, Int.toNat_natCast, Nat.mul_one, hv]
  rfl
theorem at8 (a b c d e f g hh : Int) (j : Nat) (hj : j < 8) (w : World) : (Instr.index 274 (.agg #[.int .u32 a, .int .u32 b, .int .u32 c, .int .u32 d, .int .u32 e, .int .u32 f, .int .u32 g, .int .u32 hh]) (.int .i64 (j : Int))).run Tryz.prog w = .ok (.int .u32 (([a, b, c, d, e, f, g, hh] : List Int).getD j 0)) w := by
  refine run_index_arr _ _ j _ w rfl hj ?_ Tryz.underlying274 Tryz.underlying73 cells30
  have := cells32_at [a, b, c, d, e, f, g, hh] j (by simpa using hj)
  simpa [cells32] using this

set_option maxRecDepth 100000 in
set_option maxHeartbeats 1000000 in
theorem dig_compressed (s : S8) (hs : s.ok) (bk ok bw ow : Nat) (ks ws : List Int) (w : World) (lk : ks.length = 64) (lw : ws.length = 64)
    (hk : w.rangeAt bk ok (cells32 ks)) (hw : w.rangeAt bw ow (cells32 ws)) (bk1 : bk < w.heap.size) (bw1 : bw < w.heap.size) :
    Calls Tryz.prog 252 #[.agg #[.int .u32 s.a, .int .u32 s.b, .int .u32 s.c, .int .u32 s.d, .int .u32 s.e, .int .u32 s.f, .int .u32 s.g, .int .u32 s.h], .pointer (some ⟨bk, ok, none⟩), .pointer (some ⟨bw, ow, none⟩)] w fun e w' => e = .returned (.agg (cells32 (s.plus (rnds ks ws 64 s)).list).toArray) ∧ Below w.heap.size w w' := by
  obtain ⟨xa, xb, xc, xd, xe, xf, xg, xh⟩ := s
  go_enter Tryz.func252, Tryz.ntmps252
  go_wp2_with (first | (refine wpList_allocN rfl rfl run_alloc8 (w.heap.size + 1) (by simp) ?_))
  have hr1 : RowIs ((w.alloc (.cells #[.int .u32 xa, .int .u32 xb, .int .u32 xc, .int .u32 xd, .int .u32 xe, .int .u32 xf, .int .u32 xg, .int .u32 xh] 274)).alloc (.cells (cells32 z8).toArray 274)) w.heap.size 274 (cells32 [xa, xb, xc, xd, xe, xf, xg, xh]) := (RowIs.new w _ (cells32 [xa, xb, xc, xd, xe, xf, xg, xh])).alloc _
  have hr2 : RowIs ((w.alloc (.cells #[.int .u32 xa, .int .u32 xb, .int .u32 xc, .int .u32 xd, .int .u32 xe, .int .u32 xf, .int .u32 xg, .int .u32 xh] 274)).alloc (.cells (cells32 z8).toArray 274)) (w.heap.size + 1) 274 (cells32 z8) := by
    have := RowIs.new (w.alloc (.cells #[.int .u32 xa, .int .u32 xb, .int .u32 xc, .int .u32 xd, .int .u32 xe, .int .u32 xf, .int .u32 xg, .int .u32 xh] 274)) 274 (cells32 z8)
    simpa using this
  have hb2 : Below w.heap.size w ((w.alloc (.cells #[.int .u32 xa, .int .u32 xb, .int .u32 xc, .int .u32 xd, .int .u32 xe, .int .u32 xf, .int .u32 xg, .int .u32 xh] 274)).alloc (.cells (cells32 z8).toArray 274)) := ((Below.refl _ _).alloc (Nat.le_refl _) _).alloc (by simp) _
  generalize (w.alloc (.cells #[.int .u32 xa, .int .u32 xb, .int .u32 xc, .int .u32 xd, .int .u32 xe, .int .u32 xf, .int .u32 xg, .int .u32 xh] 274)).alloc (.cells (cells32 z8).toArray 274) = w2 at *
  have c0 : w2.cell? ⟨w.heap.size, 0, none⟩ = some (.int .u32 xa) := hr1.cellAt rfl
  have c1 : w2.cell? ⟨w.heap.size, 1, none⟩ = some (.int .u32 xb) := hr1.cellAt rfl
  have c2 : w2.cell? ⟨w.heap.size, 2, none⟩ = some (.int .u32 xc) := hr1.cellAt rfl
  have c3 : w2.cell? ⟨w.heap.size, 3, none⟩ = some (.int .u32 xd) := hr1.cellAt rfl
  have c4 : w2.cell? ⟨w.heap.size, 4, none⟩ = some (.int .u32 xe) := hr1.cellAt rfl
  have c5 : w2.cell? ⟨w.heap.size, 5, none⟩ = some (.int .u32 xf) := hr1.cellAt rfl
  have c6 : w2.cell? ⟨w.heap.size, 6, none⟩ = some (.int .u32 xg) := hr1.cellAt rfl
  have c7 : w2.cell? ⟨w.heap.size, 7, none⟩ = some (.int .u32 xh) := hr1.cellAt rfl
  go_region_held3 (fun w' => w'.cell? ⟨w.heap.size, 0, none⟩ = some (.int .u32 xa) ∧ w'.cell? ⟨w.heap.size, 1, none⟩ = some (.int .u32 xb) ∧ w'.cell? ⟨w.heap.size, 2, none⟩ = some (.int .u32 xc) ∧ w'.cell? ⟨w.heap.size, 3, none⟩ = some (.int .u32 xd) ∧ w'.cell? ⟨w.heap.size, 4, none⟩ = some (.int .u32 xe) ∧ w'.cell? ⟨w.heap.size, 5, none⟩ = some (.int .u32 xf) ∧ w'.cell? ⟨w.heap.size, 6, none⟩ = some (.int .u32 xg) ∧ w'.cell? ⟨w.heap.size, 7, none⟩ = some (.int .u32 xh)) (go_keep) (fail)
  go_wp2
  clear c0 c1 c2 c3 c4 c5 c6 c7
  go_loopw [7, 8, 9, 10, 11, 12, 13, 14, 36] (fun va vb vc vd ve vf vg vh i wr => ∃ (t : Nat) (a b c d e f g hh : Int), t ≤ 64 ∧ i = .int .i64 t ∧ va = .int .u32 a ∧ vb = .int .u32 b ∧ vc = .int .u32 c ∧ vd = .int .u32 d ∧ ve = .int .u32 e ∧ vf = .int .u32 f ∧ vg = .int .u32 g ∧ vh = .int .u32 hh ∧ Hid (rnds ks ws t ⟨xa, xb, xc, xd, xe, xf, xg, xh⟩ = ⟨a, b, c, d, e, f, g, hh⟩) ∧ RowIs wr w.heap.size 274 (cells32 [xa, xb, xc, xd, xe, xf, xg, xh]) ∧ RowIs wr (w.heap.size + 1) 274 (cells32 z8) ∧ Below w.heap.size w wr) (fun _ _ _ _ _ _ _ _ i _ => 64 - (intOf i).toNat)
  case atStart => exact ⟨0, _, _, _, _, _, _, _, _, by omega, rfl, rfl, rfl, rfl, rfl, rfl, rfl, rfl, rfl, rfl, hr1.drew, hr2.drew, hb2.drew⟩
  case round =>
    clear hr1 hr2 hb2
    obtain ⟨t, a, b, c, d, e, f, g, hh, ht, rfl, rfl, rfl, rfl, rfl, rfl, rfl, rfl, rfl, HR, hr1, hr2, hbel⟩ := hrel
    by_cases hlt : t < 64
    · have hok : (⟨a, b, c, d, e, f, g, hh⟩ : S8).ok := by rw [← HR.out]; exact rnds_ok _ _ _ hs
      obtain ⟨wa, wb, wc, wd, we, wf, wg, wh⟩ := hok
      simp only at wa wb wc wd we wf wg wh
      have hck : wr.cell? ⟨bk, ok + t, none⟩ = some (.int .u32 (ks.getD t 0)) := range_below hk hbel bk1 t _ (cells32_at ks t (by omega))
      have hcw : wr.cell? ⟨bw, ow + t, none⟩ = some (.int .u32 (ws.getD t 0)) := range_below hw hbel bw1 t _ (cells32_at ws t (by omega))
      have e1 := band_eq we wf
      have e2 : bits BinOp.xor IntKind.u32 IntKind.u32.max e = 4294967295 - e := bnot_eq we
      have e3 := band_eq (not_w we) wg
      have e4 : bits BinOp.xor IntKind.u32 (andI e f) (andI (4294967295 - e) g) = chI e f g := bxor_eq (andI_w we) (andI_w (not_w we))
      have e5 := band_eq wa wb
      have e6 := band_eq wa wc
      have e7 := band_eq wb wc
      have e8 := bxor_eq (andI_w (b := b) wa) (andI_w (b := c) wa)
      have e9 : bits BinOp.xor IntKind.u32 (xorI (andI a b) (andI a c)) (andI b c) = majI a b c := bxor_eq (xorI_w (andI_w wa) (andI_w wa)) (andI_w wb)
      have t0 : (0 : Int) ≤ (t : Int) := by omega
      have t64 : (t : Int) < 64 := by omega
      have HS : Hid (rnds ks ws (t + 1) ⟨xa, xb, xc, xd, xe, xf, xg, xh⟩ = rnd (ks.getD t 0) (ws.getD t 0) ⟨a, b, c, d, e, f, g, hh⟩) := by
        show rnd _ _ _ = _; rw [HR.out]
      generalize ks.getD t 0 = kt at *
      generalize ws.getD t 0 = wt at *
      go_wp2_with fail
      go_region_held3 (fun w' => w'.cell? ⟨bk, ok + t, none⟩ = some (.int .u32 kt) ∧ w'.cell? ⟨bw, ow + t, none⟩ = some (.int .u32 wt)) (go_keep) (first | (go_at_call 256; refine (dig_bigSigma1 _ _ we).mono ?_; rintro e w' ⟨rfl, rfl⟩))
      go_wp2_with (first | (go_at_call 257; refine (dig_bigSigma0 _ _ wa).mono ?_; rintro e w' ⟨rfl, rfl⟩))
      go_roundw
      case rel =>
        refine ⟨t + 1, _, _, _, _, _, _, _, _, by omega, by go_num, rfl, rfl, rfl, rfl, rfl, rfl, rfl, rfl, ?_, hr1.drew, hr2.drew, hbel.drew⟩
        rw [Hid, HS.out]
        rfl
      case measure => simp [intOf]; omega
    · have ht64 : t = 64 := by omega
      have HF : Hid (rnds ks ws 64 ⟨xa, xb, xc, xd, xe, xf, xg, xh⟩ = ⟨a, b, c, d, e, f, g, hh⟩) := by rw [← ht64]; exact HR
      clear HR ht64 ht
      obtain ⟨pl, hpl⟩ : ∃ pl : List Int, pl = (S8.plus ⟨xa, xb, xc, xd, xe, xf, xg, xh⟩ ⟨a, b, c, d, e, f, g, hh⟩).list := ⟨_, rfl⟩
      have HPL : Hid (pl = (S8.plus ⟨xa, xb, xc, xd, xe, xf, xg, xh⟩ ⟨a, b, c, d, e, f, g, hh⟩).list) := hpl
      have hpn : pl.length = 8 := by rw [hpl]; rfl
      have HP : ∀ j, j < 8 → Hid (pl.getD j 0 = (([xa, xb, xc, xd, xe, xf, xg, xh] : List Int).getD j 0 + ([a, b, c, d, e, f, g, hh] : List Int).getD j 0) % 4294967296) := by
        intro j hj
        subst hpl
        match j, hj with
        | 0, _ => rfl
        | 1, _ => rfl
        | 2, _ => rfl
        | 3, _ => rfl
        | 4, _ => rfl
        | 5, _ => rfl
        | 6, _ => rfl
        | 7, _ => rfl
      have hA := at8 a b c d e f g hh
      have hr1' : RowIs wr w.heap.size 274 (cells32 (pl.take 0 ++ ([xa, xb, xc, xd, xe, xf, xg, xh] : List Int).drop 0)) := hr1
      clear hpl hr1
      obtain ⟨ol, hol⟩ : ∃ ol : List Int, ol = [xa, xb, xc, xd, xe, xf, xg, xh] := ⟨_, rfl⟩
      obtain ⟨nl, hnl⟩ : ∃ nl : List Int, nl = [a, b, c, d, e, f, g, hh] := ⟨_, rfl⟩
      have hon : ol.length = 8 := by rw [hol]; rfl
      rw [← hol] at HP hr1'
      rw [← hnl] at HP hA
      clear hol hnl
      have HA : Hid (∀ j : Nat, j < 8 → ∀ w : World, (Instr.index 274 (.agg #[.int .u32 a, .int .u32 b, .int .u32 c, .int .u32 d, .int .u32 e, .int .u32 f, .int .u32 g, .int .u32 hh]) (.int .i64 (j : Int))).run Tryz.prog w = .ok (.int .u32 (nl.getD j 0)) w) := hA
      have HPH : Hid (∀ j, j < 8 → Hid (pl.getD j 0 = (ol.getD j 0 + nl.getD j 0) % 4294967296)) := HP
      clear hA HP
      go_wp2
      go_loopw [100] (fun i wr => ∃ j : Nat, j ≤ 8 ∧ i = .int .i64 j ∧ RowIs wr w.heap.size 274 (cells32 (pl.take j ++ ol.drop j)) ∧ RowIs wr (w.heap.size + 1) 274 (cells32 z8) ∧ Below w.heap.size w wr) (fun i _ => 8 - (intOf i).toNat)
      case atStart => exact ⟨0, by omega, rfl, hr1', hr2, hbel⟩
      case round =>
        clear hr1' hr2 hbel
        obtain ⟨j, hj, rfl, hr1, hr2, hbel⟩ := hrel
        by_cases hj8 : j < 8
        · have hix := HA.out j hj8
          have hc := hr1.cellAt (cells32_at _ j (by rw [mix_len pl ol j (by omega) (by omega)]; omega))
          rw [mix_at pl ol j (by omega) (by omega)] at hc
          have hfz := hr1.frozen j
          have HV : Hid (RowIs (wr.setCell ⟨w.heap.size, j, none⟩ (.int .u32 ((ol.getD j 0 + nl.getD j 0) % 4294967296))) w.heap.size 274 (cells32 (pl.take (j + 1) ++ ol.drop (j + 1)))) := by
            have := hr1.set j (.int .u32 ((ol.getD j 0 + nl.getD j 0) % 4294967296))
            rw [show (cells32 (pl.take j ++ ol.drop j)).set j (.int .u32 ((ol.getD j 0 + nl.getD j 0) % 4294967296)) = cells32 (pl.take (j + 1) ++ ol.drop (j + 1)) from by
              simp only [cells32, ← List.map_set]
              rw [mix_set pl ol j _ (by omega) (by omega) (HPH.out j hj8).out]] at this
            exact this
          have j0 : (0 : Int) ≤ (j : Int) := by omega
          have j8 : (j : Int) < 8 := by omega
          generalize ol.getD j 0 = oj at *
          generalize nl.getD j 0 = nj at *
          go_wp2
          go_roundw
          case rel => exact ⟨j + 1, by omega, by go_num, HV.out, hr2.setOther (by simp) _, hbel.setCell (by simp) _⟩
          case measure => simp [intOf]; omega
        · have hfull : cells32 (pl.take j ++ ol.drop j) = cells32 pl := by
            rw [List.take_of_length_le (by omega), List.drop_of_length_le (by omega), List.append_nil]
          rw [hfull] at hr1
          have hlen : (cells32 pl).length = 8 := by rw [cells32_len, hpn]
          have hone := all_oneCell_toArray (cells32_one pl)
          clear hfull
          have HCS : Hid (cells32 pl = cells32 (S8.plus ⟨xa, xb, xc, xd, xe, xf, xg, xh⟩ (rnds ks ws 64 ⟨xa, xb, xc, xd, xe, xf, xg, xh⟩)).list) := by rw [HF.out, ← HPL.out]; rfl
          generalize cells32 pl = cs at *
          go_wp2_with (first | (refine wpList_load_mid rfl 274 _ rfl w.heap.size 0 rfl cs _ (hr1.range (by rw [List.drop_zero, List.take_length])) Tryz.underlying274 rfl (by rw [size8, hlen]) ?_) | (refine wpList_store_mid rfl 274 _ _ rfl (w.heap.size + 1) 0 cs.toArray rfl rfl (hr2.there (by simp [hlen, cells32_len, z8_len])) (by rw [size8]; simp [hlen]) hone ?_))
          refine bodyPost_ret (v := .agg cs.toArray) (results_row rfl _ _ (w.heap.size + 1) cs _ (by simp [Act.put]) ?_ Tryz.underlying274 rfl (by rw [size8, hlen])) rfl ⟨by rw [HCS.out], bel_setCells hbel (by omega) _ _⟩
          exact World.rangeAt_setCells_same _ _ _ _ (hr2.there (by simp [hlen, cells32_len, z8_len]))

end Go.Proofs.YtanghehmfagmfaaGreatDoor

/-
  The rounds of the reference's Sum (the loop in block 6).
-/
namespace Go.Proofs.YtanghehmfagmfaaGreatDoor
open Go.RowKit
set_option linter.unusedVariables false
set_option maxRecDepth 100000

/-- The body of the block of that number. -/
def blkOf (k : Nat) : Code → Option Code
  | .block j c => if j = k then some c else blkOf k c
  | .seq a b => match blkOf k a with
    | some c => some c
    | none => blkOf k b
  | .loop c => blkOf k c
  | .scope c => blkOf k c
  | .cond _ a b => match blkOf k a with
    | some c => some c
    | none => blkOf k b
  | _ => none

theorem ch_ref {e f g : Int} (he : W32 e) (hf : W32 f) (hg : W32 g) : bits BinOp.xor IntKind.u32 (bits BinOp.and IntKind.u32 e f) (bits BinOp.and IntKind.u32 (4294967295 - e) g) = chI e f g := by
  rw [band_eq he hf, band_eq (not_w he) hg, bxor_eq (andI_w he) (andI_w (not_w he))]; rfl
theorem maj_ref {a b c : Int} (ha : W32 a) (hb : W32 b) (hc : W32 c) : bits BinOp.xor IntKind.u32 (bits BinOp.xor IntKind.u32 (bits BinOp.and IntKind.u32 a b) (bits BinOp.and IntKind.u32 a c)) (bits BinOp.and IntKind.u32 b c) = majI a b c := by
  rw [band_eq ha hb, band_eq ha hc, band_eq hb hc, bxor_eq (andI_w ha) (andI_w ha), bxor_eq (xorI_w (andI_w ha) (andI_w ha)) (andI_w hb)]; rfl
theorem bs1_ref {x : Int} (h : W32 x) : bits BinOp.xor IntKind.u32 (bits BinOp.xor IntKind.u32 (rotl x (-6)) (rotl x (-11))) (rotl x (-25)) = bs1 x := by
  rw [bxor_eq (rotl_w _ h) (rotl_w _ h), bxor_eq (xorI_w (rotl_w _ h) (rotl_w _ h)) (rotl_w _ h)]; rfl
theorem bs0_ref {x : Int} (h : W32 x) : bits BinOp.xor IntKind.u32 (bits BinOp.xor IntKind.u32 (rotl x (-2)) (rotl x (-13))) (rotl x (-22)) = bs0 x := by
  rw [bxor_eq (rotl_w _ h) (rotl_w _ h), bxor_eq (xorI_w (rotl_w _ h) (rotl_w _ h)) (rotl_w _ h)]; rfl

set_option maxRecDepth 1000000 in
set_option maxHeartbeats 4000000 in
theorem ref_rounds (c0 c1 c2 c4 c5 c6 c8 c9 c10 c11 c12 c15 c16 c17 c18 c19 c20 c21 c22 c23 c24 c25 c26 c27 c28 c29 c30 c31 c32 c33 c34 c35 c36 c37 c38 c39 c40 c41 c42 c43 c44 c45 c46 c47 c48 c49 c50 c51 c52 c53 c54 c55 c56 c57 c58 c59 c60 c61 c62 c63 c64 c65 c66 c67 c68 c69 c70 c71 c72 c73 c74 c75 c76 c77 c78 c79 c80 c81 c82 c83 c84 c85 c86 c87 c88 c89 c90 c91 c92 c93 c94 c95 c96 c97 c98 c99 c100 c101 c102 c103 c104 c105 c106 c107 c108 c109 c110 c111 c112 c113 c114 c115 c116 c117 c118 c119 c120 c121 c122 c123 c124 c125 c126 c127 c128 c129 c130 c131 c132 c133 c134 c135 c136 c137 c138 c139 c140 c141 c142 c143 c144 c145 c146 c147 c148 c149 c150 c151 c152 c153 c154 c155 c156 c157 c158 c159 c160 c161 c162 c163 c164 c165 c166 c167 c168 c169 c170 c171 c172 c173 c174 c175 c176 c177 c178 c179 c180 c181 c182 c183 c184 c185 c186 c187 c188 c189 c190 c191 c192 c193 c194 c195 c196 c197 c198 c199 c200 c201 c202 c203 c204 c205 c206 c207 c208 c209 c210 c211 c212 c213 c214 c215 c216 c217 c218 c219 c220 c221 c222 c223 c224 c225 c226 c227 c228 c229 c230 c231 c232 c233 c234 : Value) (gt gw g0 cap0 : Nat) (ks ws : List Int) (s : S8) (hs : s.ok) (w : World) (Q0 : Exit → Act → World → Prop)
    (lk : ks.length = 64) (lw : ws.length = 64) (ht : w.rangeAt gt 0 (cells32 ks)) (ht1 : gt < w.heap.size) (hw : w.rangeAt gw 0 (cells32 ws)) (hw1 : gw < w.heap.size) (hv : w.rangeAt g0 0 (cells32 s.list)) (hv1 : g0 < w.heap.size)
    (hexit : ∀ (d14 d15 d16 d17 d18 d107 d108 d109 d110 d111 d112 d113 d114 d115 d116 d117 d118 d119 d120 d121 d122 d123 d124 d125 d126 d127 d128 d129 d130 d131 d132 d133 d134 d135 d136 d137 d138 d139 d140 d141 d142 d143 d144 d145 d146 d147 d148 d149 d150 d151 d152 d153 d154 d155 d156 d157 d158 d159 d160 d161 d162 d163 d164 d165 d166 d167 d168 d169 d170 d171 d172 d173 d174 d175 d176 d177 d178 d179 d180 d181 d182 d183 d184 d185 d186 d187 d188 d189 d190 d191 d192 d193 d194 d195 d196 d197 d198 d199 d200 d201 d202 d203 d204 d205 : Value) (g cap : Nat) (w' : World), w'.rangeAt g 0 (cells32 (rnds ks ws 64 s).list) → (g = g0 ∨ w.heap.size ≤ g) → Below w.heap.size w w' → Q0 (.exit 6) ⟨(List.toArray (c0 :: c1 :: c2 :: .slice (some ⟨gt, 0, none⟩) 64 64 :: c4 :: c5 :: c6 :: .pointer (some ⟨gw, 0, none⟩) :: c8 :: c9 :: c10 :: c11 :: c12 :: .slice (some ⟨g, 0, none⟩) 8 cap :: d14 :: d15 :: d16 :: d17 :: d18 :: c19 :: c20 :: c21 :: c22 :: c23 :: c24 :: c25 :: c26 :: c27 :: c28 :: c29 :: c30 :: c31 :: c32 :: c33 :: c34 :: c35 :: c36 :: c37 :: c38 :: c39 :: c40 :: c41 :: c42 :: c43 :: c44 :: c45 :: c46 :: c47 :: c48 :: c49 :: c50 :: c51 :: c52 :: c53 :: c54 :: c55 :: c56 :: c57 :: c58 :: c59 :: c60 :: c61 :: c62 :: c63 :: c64 :: c65 :: c66 :: c67 :: c68 :: c69 :: c70 :: c71 :: c72 :: c73 :: c74 :: c75 :: c76 :: c77 :: c78 :: c79 :: c80 :: c81 :: c82 :: c83 :: c84 :: c85 :: c86 :: c87 :: c88 :: c89 :: c90 :: c91 :: c92 :: c93 :: c94 :: c95 :: c96 :: c97 :: c98 :: c99 :: c100 :: c101 :: c102 :: c103 :: c104 :: c105 :: c106 :: d107 :: d108 :: d109 :: d110 :: d111 :: d112 :: d113 :: d114 :: d115 :: d116 :: d117 :: d118 :: d119 :: d120 :: d121 :: d122 :: d123 :: d124 :: d125 :: d126 :: d127 :: d128 :: d129 :: d130 :: d131 :: d132 :: d133 :: d134 :: d135 :: d136 :: d137 :: d138 :: d139 :: d140 :: d141 :: d142 :: d143 :: d144 :: d145 :: d146 :: d147 :: d148 :: d149 :: d150 :: d151 :: d152 :: d153 :: d154 :: d155 :: d156 :: d157 :: d158 :: d159 :: d160 :: d161 :: d162 :: d163 :: d164 :: d165 :: d166 :: d167 :: d168 :: d169 :: d170 :: d171 :: d172 :: d173 :: d174 :: d175 :: d176 :: d177 :: d178 :: d179 :: d180 :: d181 :: d182 :: d183 :: d184 :: d185 :: d186 :: d187 :: d188 :: d189 :: d190 :: d191 :: d192 :: d193 :: d194 :: d195 :: d196 :: d197 :: d198 :: d199 :: d200 :: d201 :: d202 :: d203 :: d204 :: d205 :: c206 :: c207 :: c208 :: c209 :: c210 :: c211 :: c212 :: c213 :: c214 :: c215 :: c216 :: c217 :: c218 :: c219 :: c220 :: c221 :: c222 :: c223 :: c224 :: c225 :: c226 :: c227 :: c228 :: c229 :: c230 :: c231 :: c232 :: c233 :: c234 :: [])), []⟩ w') :
    Code.wp Tryz.prog ((Tryz.f187.body.bind (blkOf 6)).getD .skip) Q0 ⟨(List.toArray (c0 :: c1 :: c2 :: .slice (some ⟨gt, 0, none⟩) 64 64 :: c4 :: c5 :: c6 :: .pointer (some ⟨gw, 0, none⟩) :: c8 :: c9 :: c10 :: c11 :: c12 :: .slice (some ⟨g0, 0, none⟩) 8 cap0 :: .int .i64 0 :: c15 :: c16 :: c17 :: c18 :: c19 :: c20 :: c21 :: c22 :: c23 :: c24 :: c25 :: c26 :: c27 :: c28 :: c29 :: c30 :: c31 :: c32 :: c33 :: c34 :: c35 :: c36 :: c37 :: c38 :: c39 :: c40 :: c41 :: c42 :: c43 :: c44 :: c45 :: c46 :: c47 :: c48 :: c49 :: c50 :: c51 :: c52 :: c53 :: c54 :: c55 :: c56 :: c57 :: c58 :: c59 :: c60 :: c61 :: c62 :: c63 :: c64 :: c65 :: c66 :: c67 :: c68 :: c69 :: c70 :: c71 :: c72 :: c73 :: c74 :: c75 :: c76 :: c77 :: c78 :: c79 :: c80 :: c81 :: c82 :: c83 :: c84 :: c85 :: c86 :: c87 :: c88 :: c89 :: c90 :: c91 :: c92 :: c93 :: c94 :: c95 :: c96 :: c97 :: c98 :: c99 :: c100 :: c101 :: c102 :: c103 :: c104 :: c105 :: c106 :: c107 :: c108 :: c109 :: c110 :: c111 :: c112 :: c113 :: c114 :: c115 :: c116 :: c117 :: c118 :: c119 :: c120 :: c121 :: c122 :: c123 :: c124 :: c125 :: c126 :: c127 :: c128 :: c129 :: c130 :: c131 :: c132 :: c133 :: c134 :: c135 :: c136 :: c137 :: c138 :: c139 :: c140 :: c141 :: c142 :: c143 :: c144 :: c145 :: c146 :: c147 :: c148 :: c149 :: c150 :: c151 :: c152 :: c153 :: c154 :: c155 :: c156 :: c157 :: c158 :: c159 :: c160 :: c161 :: c162 :: c163 :: c164 :: c165 :: c166 :: c167 :: c168 :: c169 :: c170 :: c171 :: c172 :: c173 :: c174 :: c175 :: c176 :: c177 :: c178 :: c179 :: c180 :: c181 :: c182 :: c183 :: c184 :: c185 :: c186 :: c187 :: c188 :: c189 :: c190 :: c191 :: c192 :: c193 :: c194 :: c195 :: c196 :: c197 :: c198 :: c199 :: c200 :: c201 :: c202 :: c203 :: c204 :: c205 :: c206 :: c207 :: c208 :: c209 :: c210 :: c211 :: c212 :: c213 :: c214 :: c215 :: c216 :: c217 :: c218 :: c219 :: c220 :: c221 :: c222 :: c223 :: c224 :: c225 :: c226 :: c227 :: c228 :: c229 :: c230 :: c231 :: c232 :: c233 :: c234 :: [])), []⟩ w := by
  conv => arg 2; whnf
  obtain ⟨xa, xb, xc, xd, xe, xf, xg, xh⟩ := s
  have HX : Hid (∀ (d14 d15 d16 d17 d18 d107 d108 d109 d110 d111 d112 d113 d114 d115 d116 d117 d118 d119 d120 d121 d122 d123 d124 d125 d126 d127 d128 d129 d130 d131 d132 d133 d134 d135 d136 d137 d138 d139 d140 d141 d142 d143 d144 d145 d146 d147 d148 d149 d150 d151 d152 d153 d154 d155 d156 d157 d158 d159 d160 d161 d162 d163 d164 d165 d166 d167 d168 d169 d170 d171 d172 d173 d174 d175 d176 d177 d178 d179 d180 d181 d182 d183 d184 d185 d186 d187 d188 d189 d190 d191 d192 d193 d194 d195 d196 d197 d198 d199 d200 d201 d202 d203 d204 d205 : Value) (g cap : Nat) (w' : World), w'.rangeAt g 0 (cells32 (rnds ks ws 64 ⟨xa, xb, xc, xd, xe, xf, xg, xh⟩).list) → (g = g0 ∨ w.heap.size ≤ g) → Below w.heap.size w w' → Q0 (.exit 6) ⟨(List.toArray (c0 :: c1 :: c2 :: .slice (some ⟨gt, 0, none⟩) 64 64 :: c4 :: c5 :: c6 :: .pointer (some ⟨gw, 0, none⟩) :: c8 :: c9 :: c10 :: c11 :: c12 :: .slice (some ⟨g, 0, none⟩) 8 cap :: d14 :: d15 :: d16 :: d17 :: d18 :: c19 :: c20 :: c21 :: c22 :: c23 :: c24 :: c25 :: c26 :: c27 :: c28 :: c29 :: c30 :: c31 :: c32 :: c33 :: c34 :: c35 :: c36 :: c37 :: c38 :: c39 :: c40 :: c41 :: c42 :: c43 :: c44 :: c45 :: c46 :: c47 :: c48 :: c49 :: c50 :: c51 :: c52 :: c53 :: c54 :: c55 :: c56 :: c57 :: c58 :: c59 :: c60 :: c61 :: c62 :: c63 :: c64 :: c65 :: c66 :: c67 :: c68 :: c69 :: c70 :: c71 :: c72 :: c73 :: c74 :: c75 :: c76 :: c77 :: c78 :: c79 :: c80 :: c81 :: c82 :: c83 :: c84 :: c85 :: c86 :: c87 :: c88 :: c89 :: c90 :: c91 :: c92 :: c93 :: c94 :: c95 :: c96 :: c97 :: c98 :: c99 :: c100 :: c101 :: c102 :: c103 :: c104 :: c105 :: c106 :: d107 :: d108 :: d109 :: d110 :: d111 :: d112 :: d113 :: d114 :: d115 :: d116 :: d117 :: d118 :: d119 :: d120 :: d121 :: d122 :: d123 :: d124 :: d125 :: d126 :: d127 :: d128 :: d129 :: d130 :: d131 :: d132 :: d133 :: d134 :: d135 :: d136 :: d137 :: d138 :: d139 :: d140 :: d141 :: d142 :: d143 :: d144 :: d145 :: d146 :: d147 :: d148 :: d149 :: d150 :: d151 :: d152 :: d153 :: d154 :: d155 :: d156 :: d157 :: d158 :: d159 :: d160 :: d161 :: d162 :: d163 :: d164 :: d165 :: d166 :: d167 :: d168 :: d169 :: d170 :: d171 :: d172 :: d173 :: d174 :: d175 :: d176 :: d177 :: d178 :: d179 :: d180 :: d181 :: d182 :: d183 :: d184 :: d185 :: d186 :: d187 :: d188 :: d189 :: d190 :: d191 :: d192 :: d193 :: d194 :: d195 :: d196 :: d197 :: d198 :: d199 :: d200 :: d201 :: d202 :: d203 :: d204 :: d205 :: c206 :: c207 :: c208 :: c209 :: c210 :: c211 :: c212 :: c213 :: c214 :: c215 :: c216 :: c217 :: c218 :: c219 :: c220 :: c221 :: c222 :: c223 :: c224 :: c225 :: c226 :: c227 :: c228 :: c229 :: c230 :: c231 :: c232 :: c233 :: c234 :: [])), []⟩ w') := hexit
  clear hexit
  go_loopw [13, 14] (fun v i wr => ∃ (t g cap : Nat) (a b c d e f g' hh : Int), t ≤ 64 ∧ i = .int .i64 t ∧ v = .slice (some ⟨g, 0, none⟩) 8 cap ∧ Hid (rnds ks ws t ⟨xa, xb, xc, xd, xe, xf, xg, xh⟩ = ⟨a, b, c, d, e, f, g', hh⟩) ∧ wr.rangeAt g 0 (cells32 [a, b, c, d, e, f, g', hh]) ∧ g < wr.heap.size ∧ (g = g0 ∨ w.heap.size ≤ g) ∧ Below w.heap.size w wr) (fun _ i _ => 64 - (intOf i).toNat)
  case atStart => exact ⟨0, g0, cap0, _, _, _, _, _, _, _, _, by omega, rfl, rfl, rfl, hv, hv1, Or.inl rfl, Below.refl _ _⟩
  case round =>
    obtain ⟨t, g, cap, a, b, c, d, e, f, g', hh, htl, rfl, rfl, HR, hv, hg, hgo, hbel⟩ := hrel
    by_cases hlt : t < 64
    · clear HX
      have hok : (⟨a, b, c, d, e, f, g', hh⟩ : S8).ok := by rw [← HR.out]; exact rnds_ok _ _ _ hs
      obtain ⟨wa, wb, wc, wd, we, wf, wg, wh⟩ := hok
      simp only at wa wb wc wd we wf wg wh
      have v0 : wr.cell? ⟨g, 0, none⟩ = some (.int .u32 a) := hv 0 _ rfl
      have v1 : wr.cell? ⟨g, 1, none⟩ = some (.int .u32 b) := hv 1 _ rfl
      have v2 : wr.cell? ⟨g, 2, none⟩ = some (.int .u32 c) := hv 2 _ rfl
      have v3 : wr.cell? ⟨g, 3, none⟩ = some (.int .u32 d) := hv 3 _ rfl
      have v4 : wr.cell? ⟨g, 4, none⟩ = some (.int .u32 e) := hv 4 _ rfl
      have v5 : wr.cell? ⟨g, 5, none⟩ = some (.int .u32 f) := hv 5 _ rfl
      have v6 : wr.cell? ⟨g, 6, none⟩ = some (.int .u32 g') := hv 6 _ rfl
      have v7 : wr.cell? ⟨g, 7, none⟩ = some (.int .u32 hh) := hv 7 _ rfl
      have hkt : wr.cell? ⟨gt, t, none⟩ = some (.int .u32 (ks.getD t 0)) := by have := range_below ht hbel ht1 t _ (cells32_at ks t (by omega)); rwa [Nat.zero_add] at this
      have hwt : wr.cell? ⟨gw, t, none⟩ = some (.int .u32 (ws.getD t 0)) := by have := range_below hw hbel hw1 t _ (cells32_at ws t (by omega)); rwa [Nat.zero_add] at this
      have HS : Hid (rnds ks ws (t + 1) ⟨xa, xb, xc, xd, xe, xf, xg, xh⟩ = rnd (ks.getD t 0) (ws.getD t 0) ⟨a, b, c, d, e, f, g', hh⟩) := by
        show rnd _ _ _ = _; rw [HR.out]
      have hz : g < wr.heap.size := hg
      have t0 : (0 : Int) ≤ (t : Int) := by omega
      have t64 : (t : Int) < 64 := by omega
      have e1 := bs1_ref we
      have e2 := ch_ref we wf wg
      have e3 := bs0_ref wa
      have e4 := maj_ref wa wb wc
      have e5 : IntKind.u32.wrap (4294967295 - e) = 4294967295 - e := IntWalk.u32_in _ ⟨by have := we.2; omega, by have := we.1; omega⟩
      clear hs ht hw hv ht1 hw1 hv1 HR hgo
      generalize ks.getD t 0 = kt at *
      generalize ws.getD t 0 = wt at *
      go_wp2_with fail
      go_region_held3 (fun w' => w'.cell? ⟨g, 0, none⟩ = some (.int .u32 a) ∧ w'.cell? ⟨g, 4, none⟩ = some (.int .u32 e)) (go_keep) (fail)
      go_wp2_with fail
      go_region_held3 (fun w' => w'.cell? ⟨g, 7, none⟩ = some (.int .u32 hh) ∧ w'.cell? ⟨g, 5, none⟩ = some (.int .u32 f) ∧ w'.cell? ⟨g, 6, none⟩ = some (.int .u32 g') ∧ w'.cell? ⟨gt, t, none⟩ = some (.int .u32 kt) ∧ w'.cell? ⟨gw, t, none⟩ = some (.int .u32 wt)) (go_keep) (first | (go_at_call 186; refine (ref_left _ _ _ we.1 we.2).mono ?_; rintro e w' ⟨rfl, rfl⟩))
      have H1 : Hid (IntKind.u32.wrap (IntKind.u32.wrap (IntKind.u32.wrap (IntKind.u32.wrap (hh + bs1 e) + chI e f g') + kt) + wt) = t1I kt wt ⟨a, b, c, d, e, f, g', hh⟩) := by
        simp only [IntKind.wrap_u32, Hid]; rfl
      rw [H1.out]
      obtain ⟨T1, hT1⟩ : ∃ T1, T1 = t1I kt wt ⟨a, b, c, d, e, f, g', hh⟩ := ⟨_, rfl⟩
      rw [← hT1]
      have HT1 : Hid (T1 = t1I kt wt ⟨a, b, c, d, e, f, g', hh⟩) := hT1
      clear hT1 H1
      go_wp2_with fail
      go_region_held3 (fun w' => w'.cell? ⟨g, 1, none⟩ = some (.int .u32 b) ∧ w'.cell? ⟨g, 2, none⟩ = some (.int .u32 c)) (go_keep) (first | (go_at_call 186; refine (ref_left _ _ _ wa.1 wa.2).mono ?_; rintro e w' ⟨rfl, rfl⟩))
      have H2 : Hid (IntKind.u32.wrap (bs0 a + majI a b c) = t2I ⟨a, b, c, d, e, f, g', hh⟩) := by
        simp only [IntKind.wrap_u32, Hid]; rfl
      rw [H2.out]
      obtain ⟨T2, hT2⟩ : ∃ T2, T2 = t2I ⟨a, b, c, d, e, f, g', hh⟩ := ⟨_, rfl⟩
      rw [← hT2]
      have HT2 : Hid (T2 = t2I ⟨a, b, c, d, e, f, g', hh⟩) := hT2
      clear hT2 H2 e1 e2 e3 e4 e5
      go_wp2_with fail
      go_region_held3 (fun w' => w'.cell? ⟨g, 0, none⟩ = some (.int .u32 a) ∧ w'.cell? ⟨g, 1, none⟩ = some (.int .u32 b) ∧ w'.cell? ⟨g, 2, none⟩ = some (.int .u32 c) ∧ w'.cell? ⟨g, 3, none⟩ = some (.int .u32 d) ∧ w'.cell? ⟨g, 4, none⟩ = some (.int .u32 e) ∧ w'.cell? ⟨g, 5, none⟩ = some (.int .u32 f) ∧ w'.cell? ⟨g, 6, none⟩ = some (.int .u32 g')) (go_keep) (fail)
      go_wp2
      go_roundw
      case rel =>
        refine ⟨t + 1, wr.heap.size, 8, (T1 + T2) % 4294967296, a, b, c, (d + T1) % 4294967296, e, f, g', by omega, by go_num, rfl, ?_, ?_, ?_, Or.inr hbel.size, (hbel.alloc hbel.size _).drew.drew.drew.drew⟩
        · rw [Hid, HS.out, HT1.out, HT2.out]; rfl
        · exact (RowIs.new wr 73 (cells32 [(T1 + T2) % 4294967296, a, b, c, (d + T1) % 4294967296, e, f, g'])).drew.drew.drew.drew.range (by rw [List.drop_zero, List.take_length])
        · show wr.heap.size < (wr.alloc _).heap.size
          simp
      case measure => simp [intOf]; omega
    · have ht64 : t = 64 := by omega
      have HF : Hid (rnds ks ws 64 ⟨xa, xb, xc, xd, xe, xf, xg, xh⟩ = ⟨a, b, c, d, e, f, g', hh⟩) := by rw [← ht64]; exact HR
      clear HR ht64 htl
      go_wp2
      exact HX.out _ _ _ _ _ _ _ _ _ _ _ _ _ _ _ _ _ _ _ _ _ _ _ _ _ _ _ _ _ _ _ _ _ _ _ _ _ _ _ _ _ _ _ _ _ _ _ _ _ _ _ _ _ _ _ _ _ _ _ _ _ _ _ _ _ _ _ _ _ _ _ _ _ _ _ _ _ _ _ _ _ _ _ _ _ _ _ _ _ _ _ _ _ _ _ _ _ _ _ _ _ _ _ _ g cap _ (by rw [HF.out]; exact hv) hgo hbel

end Go.Proofs.YtanghehmfagmfaaGreatDoor

/-
  The schedule of the reference's Sum (the loop in block 4).
-/
namespace Go.Proofs.YtanghehmfagmfaaGreatDoor
open Go.RowKit
set_option linter.unusedVariables false
set_option maxRecDepth 100000

theorem sg0_ref {x : Int} (h : W32 x) : bits BinOp.xor IntKind.u32 (bits BinOp.xor IntKind.u32 (rotl x (-7)) (rotl x (-18))) (x / 8) = sg0 x := by
  rw [bxor_eq (rotl_w _ h) (rotl_w _ h), bxor_eq (xorI_w (rotl_w _ h) (rotl_w _ h)) (div_w _ h (by decide))]; rfl
theorem sg1_ref {x : Int} (h : W32 x) : bits BinOp.xor IntKind.u32 (bits BinOp.xor IntKind.u32 (rotl x (-17)) (rotl x (-19))) (x / 1024) = sg1 x := by
  rw [bxor_eq (rotl_w _ h) (rotl_w _ h), bxor_eq (xorI_w (rotl_w _ h) (rotl_w _ h)) (div_w _ h (by decide))]; rfl
theorem str_part (l : List UInt8) (i j : Nat) : (str l).extract i (i + j) = str ((l.drop i).take j) := by
  unfold str
  apply ByteArray.ext
  apply Array.toList_inj.1
  simp [ByteArray.data_extract, List.take_drop]
theorem slice_str (w : World) (l : List UInt8) (a b : Int) (i j : Nat) (ha : a = (i : Int)) (hb : b = ((i + j : Nat) : Int)) (hj : i + j ≤ l.length) :
    (Instr.slice 9 (.string (str l)) (some (.int .i64 a)) (some (.int .i64 b)) none).run Tryz.prog w = .ok (.string (str ((l.drop i).take j))) w := by
  subst ha hb
  have h1 : (i : Int) + (j : Int) ≤ ((str l).size : Int) := by rw [str_size]; omega
  have h2 : (i : Int) ≤ (i : Int) + (j : Int) := by omega
  have h3 : (0 : Int) ≤ (i : Int) + (j : Int) := by omega
  have h4 : ((i : Int) + (j : Int)).toNat = i + j := by omega
  rw [← str_part]
  have h5 : (i : Int) ≤ ((i + j : Nat) : Int) := by omega
  have h6 : (Instr.sliceBound (.int .i64 (i : Int)) (i + j) BoundsCode.sliceB).run Tryz.prog w = .ok i w := by
    unfold Instr.sliceBound
    simp only [asIntOf, Sem.run_bind, Sem.run_pure, Result.andThen_ok]
    rw [if_pos ⟨by omega, h5⟩]
    rfl
  simp [Instr.slice, run_underlying Tryz.underlying9, Instr.sliceBounds, run_sliceBound, h1, h3, h4]
  rw [h6]
  rfl
theorem blk_part (all : List UInt8) (a k : Nat) (hk : k < 16) : ((((all.drop a).take 64).drop (4 * k)).take 4) = (all.drop (a + 4 * k)).take 4 := by
  rw [List.drop_take, List.drop_drop, List.take_take, Nat.min_eq_left (by omega)]

set_option maxRecDepth 1000000 in
set_option maxHeartbeats 4000000 in
theorem ref_schedule (c0 c1 c2 c3 c4 c9 c10 c11 c12 c13 c14 c15 c16 c17 c18 c19 c20 c21 c22 c23 c24 c25 c26 c27 c28 c29 c30 c31 c32 c33 c34 c35 c36 c37 c38 c39 c40 c41 c42 c43 c44 c45 c46 c47 c48 c49 c50 c51 c52 c53 c54 c55 c56 c57 c58 c59 c60 c61 c62 c63 c64 c65 c66 c67 c68 c69 c70 c71 c72 c73 c74 c75 c76 c77 c78 c79 c80 c81 c82 c83 c84 c85 c86 c87 c88 c89 c90 c91 c92 c93 c94 c95 c96 c97 c98 c99 c100 c101 c102 c103 c104 c105 c106 c107 c108 c109 c110 c111 c112 c113 c114 c115 c116 c117 c118 c119 c120 c121 c122 c123 c124 c125 c126 c127 c128 c129 c130 c131 c132 c133 c134 c135 c136 c137 c138 c139 c140 c141 c142 c143 c144 c145 c146 c147 c148 c149 c150 c151 c152 c153 c154 c155 c156 c157 c158 c159 c160 c161 c162 c163 c164 c165 c166 c167 c168 c169 c170 c171 c172 c173 c174 c175 c176 c177 c178 c179 c180 c181 c182 c183 c184 c185 c186 c187 c188 c189 c190 c191 c192 c193 c194 c195 c196 c197 c198 c199 c200 c201 c202 c203 c204 c205 c206 c207 c208 c209 c210 c211 c212 c213 c214 c215 c216 c217 c218 c219 c220 c221 c222 c223 c224 c225 c226 c227 c228 c229 c230 c231 c232 c233 c234 : Value) (gw at_ : Nat) (all : List UInt8) (w : World) (Q0 : Exit → Act → World → Prop)
    (hat : at_ + 64 ≤ all.length) (hall : all.length ≤ 1152921504606846976) (hw : RowIs w gw 247 (cells32 z64))
    (hexit : ∀ (d8 d9 d10 d11 d12 d45 d46 d47 d48 d49 d50 d51 d52 d53 d54 d55 d56 d57 d58 d59 d60 d61 d62 d63 d64 d65 d66 d67 d68 d69 d70 d71 d72 d73 d74 d75 d76 d77 d78 d79 d80 d81 d82 d83 d84 d85 d86 d87 d88 d89 d90 d91 d92 d93 d94 d95 d96 d97 d98 d99 d100 d101 d102 d103 d104 : Value) (w' : World), RowIs w' gw 247 (cells32 (wTo ((all.drop at_).take 64) 64)) → Upon gw w w' → Q0 (.exit 4) ⟨(List.toArray (c0 :: c1 :: c2 :: c3 :: c4 :: .string (str all) :: .int .i64 (at_ : Int) :: .pointer (some ⟨gw, 0, none⟩) :: d8 :: d9 :: d10 :: d11 :: d12 :: c13 :: c14 :: c15 :: c16 :: c17 :: c18 :: c19 :: c20 :: c21 :: c22 :: c23 :: c24 :: c25 :: c26 :: c27 :: c28 :: c29 :: c30 :: c31 :: c32 :: c33 :: c34 :: c35 :: c36 :: c37 :: c38 :: c39 :: c40 :: c41 :: c42 :: c43 :: c44 :: d45 :: d46 :: d47 :: d48 :: d49 :: d50 :: d51 :: d52 :: d53 :: d54 :: d55 :: d56 :: d57 :: d58 :: d59 :: d60 :: d61 :: d62 :: d63 :: d64 :: d65 :: d66 :: d67 :: d68 :: d69 :: d70 :: d71 :: d72 :: d73 :: d74 :: d75 :: d76 :: d77 :: d78 :: d79 :: d80 :: d81 :: d82 :: d83 :: d84 :: d85 :: d86 :: d87 :: d88 :: d89 :: d90 :: d91 :: d92 :: d93 :: d94 :: d95 :: d96 :: d97 :: d98 :: d99 :: d100 :: d101 :: d102 :: d103 :: d104 :: c105 :: c106 :: c107 :: c108 :: c109 :: c110 :: c111 :: c112 :: c113 :: c114 :: c115 :: c116 :: c117 :: c118 :: c119 :: c120 :: c121 :: c122 :: c123 :: c124 :: c125 :: c126 :: c127 :: c128 :: c129 :: c130 :: c131 :: c132 :: c133 :: c134 :: c135 :: c136 :: c137 :: c138 :: c139 :: c140 :: c141 :: c142 :: c143 :: c144 :: c145 :: c146 :: c147 :: c148 :: c149 :: c150 :: c151 :: c152 :: c153 :: c154 :: c155 :: c156 :: c157 :: c158 :: c159 :: c160 :: c161 :: c162 :: c163 :: c164 :: c165 :: c166 :: c167 :: c168 :: c169 :: c170 :: c171 :: c172 :: c173 :: c174 :: c175 :: c176 :: c177 :: c178 :: c179 :: c180 :: c181 :: c182 :: c183 :: c184 :: c185 :: c186 :: c187 :: c188 :: c189 :: c190 :: c191 :: c192 :: c193 :: c194 :: c195 :: c196 :: c197 :: c198 :: c199 :: c200 :: c201 :: c202 :: c203 :: c204 :: c205 :: c206 :: c207 :: c208 :: c209 :: c210 :: c211 :: c212 :: c213 :: c214 :: c215 :: c216 :: c217 :: c218 :: c219 :: c220 :: c221 :: c222 :: c223 :: c224 :: c225 :: c226 :: c227 :: c228 :: c229 :: c230 :: c231 :: c232 :: c233 :: c234 :: [])), []⟩ w') :
    Code.wp Tryz.prog ((Tryz.f187.body.bind (blkOf 4)).getD .skip) Q0 ⟨(List.toArray (c0 :: c1 :: c2 :: c3 :: c4 :: .string (str all) :: .int .i64 (at_ : Int) :: .pointer (some ⟨gw, 0, none⟩) :: .int .i64 0 :: c9 :: c10 :: c11 :: c12 :: c13 :: c14 :: c15 :: c16 :: c17 :: c18 :: c19 :: c20 :: c21 :: c22 :: c23 :: c24 :: c25 :: c26 :: c27 :: c28 :: c29 :: c30 :: c31 :: c32 :: c33 :: c34 :: c35 :: c36 :: c37 :: c38 :: c39 :: c40 :: c41 :: c42 :: c43 :: c44 :: c45 :: c46 :: c47 :: c48 :: c49 :: c50 :: c51 :: c52 :: c53 :: c54 :: c55 :: c56 :: c57 :: c58 :: c59 :: c60 :: c61 :: c62 :: c63 :: c64 :: c65 :: c66 :: c67 :: c68 :: c69 :: c70 :: c71 :: c72 :: c73 :: c74 :: c75 :: c76 :: c77 :: c78 :: c79 :: c80 :: c81 :: c82 :: c83 :: c84 :: c85 :: c86 :: c87 :: c88 :: c89 :: c90 :: c91 :: c92 :: c93 :: c94 :: c95 :: c96 :: c97 :: c98 :: c99 :: c100 :: c101 :: c102 :: c103 :: c104 :: c105 :: c106 :: c107 :: c108 :: c109 :: c110 :: c111 :: c112 :: c113 :: c114 :: c115 :: c116 :: c117 :: c118 :: c119 :: c120 :: c121 :: c122 :: c123 :: c124 :: c125 :: c126 :: c127 :: c128 :: c129 :: c130 :: c131 :: c132 :: c133 :: c134 :: c135 :: c136 :: c137 :: c138 :: c139 :: c140 :: c141 :: c142 :: c143 :: c144 :: c145 :: c146 :: c147 :: c148 :: c149 :: c150 :: c151 :: c152 :: c153 :: c154 :: c155 :: c156 :: c157 :: c158 :: c159 :: c160 :: c161 :: c162 :: c163 :: c164 :: c165 :: c166 :: c167 :: c168 :: c169 :: c170 :: c171 :: c172 :: c173 :: c174 :: c175 :: c176 :: c177 :: c178 :: c179 :: c180 :: c181 :: c182 :: c183 :: c184 :: c185 :: c186 :: c187 :: c188 :: c189 :: c190 :: c191 :: c192 :: c193 :: c194 :: c195 :: c196 :: c197 :: c198 :: c199 :: c200 :: c201 :: c202 :: c203 :: c204 :: c205 :: c206 :: c207 :: c208 :: c209 :: c210 :: c211 :: c212 :: c213 :: c214 :: c215 :: c216 :: c217 :: c218 :: c219 :: c220 :: c221 :: c222 :: c223 :: c224 :: c225 :: c226 :: c227 :: c228 :: c229 :: c230 :: c231 :: c232 :: c233 :: c234 :: [])), []⟩ w := by
  conv => arg 2; whnf
  have HX : Hid (∀ (d8 d9 d10 d11 d12 d45 d46 d47 d48 d49 d50 d51 d52 d53 d54 d55 d56 d57 d58 d59 d60 d61 d62 d63 d64 d65 d66 d67 d68 d69 d70 d71 d72 d73 d74 d75 d76 d77 d78 d79 d80 d81 d82 d83 d84 d85 d86 d87 d88 d89 d90 d91 d92 d93 d94 d95 d96 d97 d98 d99 d100 d101 d102 d103 d104 : Value) (w' : World), RowIs w' gw 247 (cells32 (wTo ((all.drop at_).take 64) 64)) → Upon gw w w' → Q0 (.exit 4) ⟨(List.toArray (c0 :: c1 :: c2 :: c3 :: c4 :: .string (str all) :: .int .i64 (at_ : Int) :: .pointer (some ⟨gw, 0, none⟩) :: d8 :: d9 :: d10 :: d11 :: d12 :: c13 :: c14 :: c15 :: c16 :: c17 :: c18 :: c19 :: c20 :: c21 :: c22 :: c23 :: c24 :: c25 :: c26 :: c27 :: c28 :: c29 :: c30 :: c31 :: c32 :: c33 :: c34 :: c35 :: c36 :: c37 :: c38 :: c39 :: c40 :: c41 :: c42 :: c43 :: c44 :: d45 :: d46 :: d47 :: d48 :: d49 :: d50 :: d51 :: d52 :: d53 :: d54 :: d55 :: d56 :: d57 :: d58 :: d59 :: d60 :: d61 :: d62 :: d63 :: d64 :: d65 :: d66 :: d67 :: d68 :: d69 :: d70 :: d71 :: d72 :: d73 :: d74 :: d75 :: d76 :: d77 :: d78 :: d79 :: d80 :: d81 :: d82 :: d83 :: d84 :: d85 :: d86 :: d87 :: d88 :: d89 :: d90 :: d91 :: d92 :: d93 :: d94 :: d95 :: d96 :: d97 :: d98 :: d99 :: d100 :: d101 :: d102 :: d103 :: d104 :: c105 :: c106 :: c107 :: c108 :: c109 :: c110 :: c111 :: c112 :: c113 :: c114 :: c115 :: c116 :: c117 :: c118 :: c119 :: c120 :: c121 :: c122 :: c123 :: c124 :: c125 :: c126 :: c127 :: c128 :: c129 :: c130 :: c131 :: c132 :: c133 :: c134 :: c135 :: c136 :: c137 :: c138 :: c139 :: c140 :: c141 :: c142 :: c143 :: c144 :: c145 :: c146 :: c147 :: c148 :: c149 :: c150 :: c151 :: c152 :: c153 :: c154 :: c155 :: c156 :: c157 :: c158 :: c159 :: c160 :: c161 :: c162 :: c163 :: c164 :: c165 :: c166 :: c167 :: c168 :: c169 :: c170 :: c171 :: c172 :: c173 :: c174 :: c175 :: c176 :: c177 :: c178 :: c179 :: c180 :: c181 :: c182 :: c183 :: c184 :: c185 :: c186 :: c187 :: c188 :: c189 :: c190 :: c191 :: c192 :: c193 :: c194 :: c195 :: c196 :: c197 :: c198 :: c199 :: c200 :: c201 :: c202 :: c203 :: c204 :: c205 :: c206 :: c207 :: c208 :: c209 :: c210 :: c211 :: c212 :: c213 :: c214 :: c215 :: c216 :: c217 :: c218 :: c219 :: c220 :: c221 :: c222 :: c223 :: c224 :: c225 :: c226 :: c227 :: c228 :: c229 :: c230 :: c231 :: c232 :: c233 :: c234 :: [])), []⟩ w') := hexit
  clear hexit
  have hbl : ((all.drop at_).take 64).length = 64 := by simp; omega
  have HBP : Hid (∀ k, k < 16 → ((((all.drop at_).take 64).drop (4 * k)).take 4) = (all.drop (at_ + 4 * k)).take 4) := fun k hk => blk_part all at_ k hk
  have hsz : (str all).size = all.length := str_size all
  have HSZ : Hid ((str all).size = all.length) := hsz
  have hszI : ((at_ : Int) + 64) ≤ ((str all).size : Int) := by rw [hsz]; omega
  have hszM : (str all).size ≤ 1152921504606846976 := by rw [hsz]; omega
  clear hsz
  go_loopw [8] (fun i wr => ∃ k : Nat, k ≤ 64 ∧ i = .int .i64 k ∧ RowIs wr gw 247 (cells32 (wTo ((all.drop at_).take 64) k ++ List.replicate (64 - k) 0)) ∧ Upon gw w wr) (fun i _ => 64 - (intOf i).toNat)
  case atStart => exact ⟨0, by omega, rfl, hw, Upon.refl _ _⟩
  case round =>
    clear hw
    obtain ⟨k, hk, rfl, hrow, hup⟩ := hrel
    by_cases hlt : k < 64
    · clear HX
      have HN : Hid ((cells32 (wTo ((all.drop at_).take 64) k ++ List.replicate (64 - k) 0)).set k (.int .u32 (wNext ((all.drop at_).take 64) (wTo ((all.drop at_).take 64) k))) = cells32 (wTo ((all.drop at_).take 64) (k + 1) ++ List.replicate (64 - (k + 1)) 0)) := row_next _ k (by omega)
      have hcell := hrow.cellAt (j := k) (List.getElem?_eq_getElem (by rw [row_len _ k (by omega)]; omega))
      generalize (cells32 (wTo ((all.drop at_).take 64) k ++ List.replicate (64 - k) 0))[k]'_ = old at hcell
      have hfr := hrow.frozen k
      have k0 : (0 : Int) ≤ (k : Int) := by omega
      have k64 : (k : Int) < 64 := by omega
      by_cases hlo : k < 16
      · have hp : ((all.drop (at_ + 4 * k)).take 4).length = 4 := by simp; omega
        have hex : (str all).extract (at_ + 4 * k) (at_ + 4 * k + 4) = str ((all.drop (at_ + 4 * k)).take 4) := str_part all _ _
        have HB : Hid (bigS (str ((all.drop (at_ + 4 * k)).take 4)) = wNext ((all.drop at_).take 64) (wTo ((all.drop at_).take 64) k)) := by rw [wNext_lo _ k hlo, HBP.out k hlo]; exact big4 _ (by omega)
        have hst : (str ((all.drop (at_ + 4 * k)).take 4)).size ≤ maxLen := by rw [str_size, hp]; decide
        have hwn : W32 (wNext ((all.drop at_).take 64) (wTo ((all.drop at_).take 64) k)) := by rw [wNext_lo _ k hlo]; exact num4_w _ (by simp; omega)
        have hw0 := hwn.1
        have hw1 := hwn.2
        generalize wNext ((all.drop at_).take 64) (wTo ((all.drop at_).take 64) k) = nx at *
        have hsl : ∀ w', (Instr.slice 9 (.string (str all)) (some (.int .i64 ((at_ : Int) + 4 * (k : Int)))) (some (.int .i64 ((at_ : Int) + 4 * (k : Int) + 4))) none).run Tryz.prog w' = .ok (.string (str ((all.drop (at_ + 4 * k)).take 4))) w' := fun w' => slice_str w' all _ _ (at_ + 4 * k) 4 (by omega) (by omega) (by omega)
        go_wp2_with (first | (go_at_call 48; refine (ref_big _ _ hst).mono ?_; rintro e w' ⟨rfl, rfl⟩; rw [HB.out]))
        go_roundw
        case rel => exact ⟨k + 1, by omega, by go_num, by rw [← HN.out]; exact hrow.set _ _, hup.setCell _ _⟩
        case measure => simp [intOf]; omega
      · have c16 := hrow.cellAt (row_at _ k (k - 16) (by omega) (by omega))
        have c15 := hrow.cellAt (row_at _ k (k - 15) (by omega) (by omega))
        have c7' := hrow.cellAt (row_at _ k (k - 7) (by omega) (by omega))
        have c2' := hrow.cellAt (row_at _ k (k - 2) (by omega) (by omega))
        have HW : Hid (wNext ((all.drop at_).take 64) (wTo ((all.drop at_).take 64) k) = _) := wNext_hi _ k hlo
        have w15 := getD_w (wTo_w ((all.drop at_).take 64) k) (k - 15)
        have w2 := getD_w (wTo_w ((all.drop at_).take 64) k) (k - 2)
        generalize (wTo ((all.drop at_).take 64) k).getD (k - 16) 0 = x16 at *
        generalize (wTo ((all.drop at_).take 64) k).getD (k - 15) 0 = x15 at *
        generalize (wTo ((all.drop at_).take 64) k).getD (k - 7) 0 = x7 at *
        generalize (wTo ((all.drop at_).take 64) k).getD (k - 2) 0 = x2 at *
        have e1 := sg0_ref w15
        have e2 := sg1_ref w2
        have l15 := w15.1
        have u15 := w15.2
        have l2 := w2.1
        have u2 := w2.2
        have a16 : IntKind.i64.wrap ((k : Int) - 16) = (k : Int) - 16 := IntWalk.i64_in _ ⟨by omega, by omega⟩
        have a15 : IntKind.i64.wrap ((k : Int) - 15) = (k : Int) - 15 := IntWalk.i64_in _ ⟨by omega, by omega⟩
        have a7 : IntKind.i64.wrap ((k : Int) - 7) = (k : Int) - 7 := IntWalk.i64_in _ ⟨by omega, by omega⟩
        have a2 : IntKind.i64.wrap ((k : Int) - 2) = (k : Int) - 2 := IntWalk.i64_in _ ⟨by omega, by omega⟩
        have i16 : ∀ w', (Instr.indexAt 247 (.pointer (some ⟨gw, 0, none⟩)) (.int .i64 ((k : Int) - 16))).run Tryz.prog w' = .ok (.pointer (some ⟨gw, k - 16, none⟩)) w' := fun w' => by have := index39 w' gw 0 ((k : Int) - 16) (k - 16) (by omega) (by omega); rwa [Nat.zero_add] at this
        have i15 : ∀ w', (Instr.indexAt 247 (.pointer (some ⟨gw, 0, none⟩)) (.int .i64 ((k : Int) - 15))).run Tryz.prog w' = .ok (.pointer (some ⟨gw, k - 15, none⟩)) w' := fun w' => by have := index39 w' gw 0 ((k : Int) - 15) (k - 15) (by omega) (by omega); rwa [Nat.zero_add] at this
        have i7 : ∀ w', (Instr.indexAt 247 (.pointer (some ⟨gw, 0, none⟩)) (.int .i64 ((k : Int) - 7))).run Tryz.prog w' = .ok (.pointer (some ⟨gw, k - 7, none⟩)) w' := fun w' => by have := index39 w' gw 0 ((k : Int) - 7) (k - 7) (by omega) (by omega); rwa [Nat.zero_add] at this
        have i2 : ∀ w', (Instr.indexAt 247 (.pointer (some ⟨gw, 0, none⟩)) (.int .i64 ((k : Int) - 2))).run Tryz.prog w' = .ok (.pointer (some ⟨gw, k - 2, none⟩)) w' := fun w' => by have := index39 w' gw 0 ((k : Int) - 2) (k - 2) (by omega) (by omega); rwa [Nat.zero_add] at this
        go_wp2_with fail
        go_region_held3 (fun w' => w'.cell? ⟨gw, k - 15, none⟩ = some (.int .u32 x15) ∧ w'.cell? ⟨gw, k - 2, none⟩ = some (.int .u32 x2)) (go_keep) (fail)
        go_wp2_with fail
        refine (ref_left x15 _ _ w15.1 w15.2).mono ?_
        rintro e w' ⟨rfl, rfl⟩
        go_wp2_with fail
        refine (ref_left x15 _ _ w15.1 w15.2).mono ?_
        rintro e w' ⟨rfl, rfl⟩
        go_wp2_with fail
        refine (ref_left x2 _ _ w2.1 w2.2).mono ?_
        rintro e w' ⟨rfl, rfl⟩
        go_wp2_with fail
        refine (ref_left x2 _ _ w2.1 w2.2).mono ?_
        rintro e w' ⟨rfl, rfl⟩
        go_wp2_with fail
        go_region_held3 (fun w' => w'.cell? ⟨gw, k - 16, none⟩ = some (.int .u32 x16) ∧ w'.cell? ⟨gw, k - 7, none⟩ = some (.int .u32 x7)) (first | (go_split_ands; refine ⟨?_, ?_⟩ <;> first | assumption | (refine cell_set_other ?_ ?_; assumption; omega) | (rw [World.cell?_drew]; assumption)) | go_keep) (fail)
        go_wp2
        go_roundw
        case rel =>
          have e : (((x16 + sg0 x15) % 4294967296 + x7) % 4294967296 + sg1 x2) % 4294967296 = wNext ((all.drop at_).take 64) (wTo ((all.drop at_).take 64) k) := by
            rw [HW.out]; rfl
          rw [e]
          exact ⟨k + 1, by omega, by go_num, by rw [← HN.out]; exact (hrow.set _ _).drew.drew, (hup.setCell _ _).drew.drew⟩
        case measure => simp [intOf]; omega
    · have hk64 : k = 64 := by omega
      have hrow' : RowIs wr gw 247 (cells32 (wTo ((all.drop at_).take 64) 64)) := by
        rw [hk64] at hrow; simpa using hrow
      clear hrow hk64 hk
      go_wp2
      exact HX.out _ _ _ _ _ _ _ _ _ _ _ _ _ _ _ _ _ _ _ _ _ _ _ _ _ _ _ _ _ _ _ _ _ _ _ _ _ _ _ _ _ _ _ _ _ _ _ _ _ _ _ _ _ _ _ _ _ _ _ _ _ _ _ _ _ _ hrow' hup

end Go.Proofs.YtanghehmfagmfaaGreatDoor
