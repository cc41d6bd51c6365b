/-
  The law FrameBytes over contracts of package frame.
-/
import Derived.Test.YtkjdklicgbjkpaaFra7
import Derived.BigQuiet
namespace Go.Proofs.Ytkjdklicgbjkpaa
open Go.RowKit
set_option linter.unusedVariables false
set_option maxRecDepth 100000
set_option linter.unusedSimpArgs false

theorem extract_step (F : ByteArray) (j : Nat) (h : j < F.size) : F.extract 0 j ++ F.extract j (j + 1) = F.extract 0 (j + 1) := by
  rw [← str_back (F.extract 0 j ++ F.extract j (j + 1)), ← str_back (F.extract 0 (j + 1)), cat_list]
  simp only [ByteArray.data_extract, Array.toList_extract]
  congr 1
  simp only [List.extract, List.drop_zero, Nat.sub_zero]
  have hl : j < F.data.toList.length := by simpa using h
  rw [show j + 1 - j = 1 from by omega, List.take_add_one (l := F.data.toList) (i := j), List.drop_eq_getElem_cons hl, List.getElem?_eq_getElem hl]
  rfl
theorem extract_all (F : ByteArray) : F.extract 0 F.size = F := by
  rw [← str_back (F.extract 0 F.size), ByteArray.data_extract, Array.toList_extract]
  rw [List.extract, List.drop_zero, Nat.sub_zero, List.take_of_length_le (by simp), str_back]
theorem extract_none (F : ByteArray) : F.extract 0 0 = ⟨#[]⟩ := by
  rw [← str_back (F.extract 0 0), ByteArray.data_extract, Array.toList_extract]
  simp [List.extract, str]
/-- A Reader within a frame: the first j bytes of it came. -/
def midS (F : ByteArray) (j : Nat) : ByteArray := if j < F.size then F.extract 0 j else ⟨#[]⟩
def Mid (K : FrameKeeps) (p : Nat) (F : ByteArray) (j : Nat) (w : World) : Prop := ∃ bl, K.Rd w bl p (midS F j) false
theorem mid_feed (K : FrameKeeps) (w : World) (bl : Nat → Prop) (p : Nat) (S : ByteArray) (j : Nat) (h1 : 1 ≤ S.size) (h2 : S.size ≤ 2200) (hj : j < (putFS S).size) (hR : K.Rd w bl p (midS (putFS S) j) false) :
    Calls Try.prog 10 #[.pointer (some ⟨p, 0, none⟩), .string ((putFS S).extract j (j + 1))] w (Fed K w bl p (if j + 1 < (putFS S).size then [] else [S]) (midS (putFS S) (j + 1)) false) := by
  have hF := (putFS_yes S h1 h2).2.2
  have hm : midS (putFS S) j = (putFS S).extract 0 j := by unfold midS; rw [if_pos hj]
  have h := K.live w bl p (midS (putFS S) j) ((putFS S).extract j (j + 1)) hR (by rw [hm]; simp; omega)
  rw [hm, extract_step _ j hj] at h
  by_cases hl : j + 1 < (putFS S).size
  · have e := fr_wait S (j + 1) h1 h2 (by omega)
    rw [e.1, e.2.1, e.2.2] at h
    unfold midS
    rw [if_pos hl, if_pos hl]
    exact h
  · have e := fr_put1 S h1 h2
    rw [show j + 1 = (putFS S).size from by omega, extract_all, e.1, e.2.1, e.2.2] at h
    unfold midS
    rw [if_neg hl, if_neg hl, show j + 1 = (putFS S).size from by omega]
    exact h
theorem slice_one9 (F : ByteArray) (j : Nat) (w : World) (h : j < F.size) :
    (Instr.slice 9 (.string F) (some (.int .i64 (j : Int))) (some (.int .i64 ((j : Int) + 1))) none).run Try.prog w = .ok (.string (F.extract j (j + 1))) w := by
  have h := run_slice_string (P := Try.prog) w 9 F .i64 .i64 (j : Int) ((j : Int) + 1) Try.underlying9 (by omega) (by omega) (by omega)
  rw [h]
  congr 2
theorem Rdy.mid {K : FrameKeeps} {p : Nat} {F : ByteArray} {w : World} (h : Rdy K p false w) (hF : 0 < F.size) : Mid K p F 0 w := by
  obtain ⟨bl, hR⟩ := h
  exact ⟨bl, by unfold midS; rw [if_pos hF, extract_none]; exact hR⟩
theorem Mid.rdy {K : FrameKeeps} {p : Nat} {F : ByteArray} {j : Nat} {w : World} (h : Mid K p F j w) (hF : ¬ j < F.size) : Rdy K p false w := by
  obtain ⟨bl, hR⟩ := h
  exact ⟨bl, by unfold midS at hR; rw [if_neg hF] at hR; exact hR⟩

set_option maxRecDepth 100000 in
set_option maxHeartbeats 4000000 in
theorem frameBytes_of (K : FrameKeeps) (oa : Option Addr) (n c : Nat) (L : Nat → List UInt8) (w : World) (hn : n ≤ maxLen) (hs : StrsAt w oa n L) :
    Calls Try.prog 7 #[.slice oa n c] w fun e w' => e = .returned (.bool true) ∧ Below w.heap.size w w' := by
  have PA : Hid _ := alive9_of K
  unfold maxLen at hn
  cases d0 : decide (6 < (n : Int))
  case true =>
    go_enter Try.func7, Try.ntmps7
    go_wp2_with fail
    with_reducible refine (PA.out _).mono ?_
    rintro e w1 ⟨rfl, b1⟩
    go_wp2
    go_ret
    exact ⟨rfl, b1⟩
  case false =>
    have hn' : n ≤ 6 := by simp at d0; omega
    clear hn
    have S0 : Hid (StrsAt w oa n L) := hs
    clear hs
    go_enter Try.func7, Try.ntmps7
    go_wp2_with fail
    with_reducible refine (PA.out _).mono ?_
    rintro e w1 ⟨rfl, b1⟩
    have hR := K.new w1
    have bN := reader_new w1
    go_wp2_with fail
    generalize w1.alloc (.cells #[.string ⟨#[]⟩, .bool false, .int .i64 0] 31) = w2 at *
    have hT : Rdy K w1.heap.size false w2 := ⟨_, hR⟩
    have hle1 := b1.size
    clear hR
    go_loopw [4] (fun i wr => ∃ k : Nat, k ≤ n ∧ i = .int .i64 k ∧ Rdy K w1.heap.size false wr ∧ Below w1.heap.size w1 wr) (fun i _ => n - (intOf i).toNat)
    case atStart => exact ⟨0, by omega, rfl, hT, bN⟩
    case round =>
      clear hT bN
      obtain ⟨k, hk, rfl, hT, B⟩ := hrel
      by_cases hlt : k < n
      · have hbel := b1.trans (B.mono hle1)
        obtain ⟨bb, oo, rfl, hc⟩ := S0.out.later hbel k hlt
        have HL : Hid (∀ w', Below w1.heap.size w1 w' → w'.cell? ⟨bb, oo + k, none⟩ = some (.string (str (L k)))) := by
          intro w' hb
          obtain ⟨b', o', h1, h2⟩ := S0.out.later (b1.trans (hb.mono hle1)) k hlt
          simp only [Option.some.injEq, Addr.mk.injEq] at h1
          obtain ⟨rfl, rfl, _⟩ := h1
          exact h2
        have dlt : decide ((k : Int) < (n : Int)) = true := by simp; omega
        have dlt2 : (k : Int) < (n : Int) := by omega
        generalize str (L k) = S at *
        by_cases hz1 : S.size < 1
        · have d3 : decide ((S.size : Int) < 1) = true := by simp; omega
          go_wp2
          go_ret
          exact ⟨rfl, hbel⟩
        have d3 : decide ((S.size : Int) < 1) = false := by simp; omega
        by_cases hz2 : 100 < S.size
        · have d4 : decide (100 < (S.size : Int)) = true := by simp; omega
          go_wp2
          go_ret
          exact ⟨rfl, hbel⟩
        have d4 : decide (100 < (S.size : Int)) = false := by simp; omega
        have p1 := fun w => K.put S w (by omega)
        rw [(putFS_yes S (by omega) (by omega)).1] at p1
        have P1 : Hid _ := p1
        have hFs := (putFS_yes S (by omega) (by omega)).2.2
        have P2 : Hid (∀ w bl j, j < (putFS S).size → K.Rd w bl w1.heap.size (midS (putFS S) j) false → _) := fun w bl j hj hR => mid_feed K w bl w1.heap.size S j (by omega) (by omega) hj hR
        have e1 := str_beq_self S
        clear p1
        generalize putFS S = F at *
        have g0 : ((F.size : Int) != (S.size : Int) + 2) = false := by simp; omega
        have HFs : Hid (F.size = S.size + 2) := hFs
        have hF0 : 0 < F.size := by omega
        have hF1 : F.size ≤ 102 := by omega
        have g00 : wrap64 ((S.size : Int) + 2) = (S.size : Int) + 2 := IntWalk.wrap64_in _ ⟨by omega, by omega⟩
        clear hFs
        go_wp2_with fail
        with_reducible refine (P1.out _).mono ?_
        rintro e w3 ⟨rfl, b3⟩
        obtain ⟨bl, hR⟩ := hT
        replace hR := K.below hR b3
        have B3 := B.trans (b3.mono B.size)
        have hM : Mid K w1.heap.size F 0 w3 := Rdy.mid ⟨bl, hR⟩ (by omega)
        have hc3 := HL.out _ B3
        clear b3 hR hc hbel B
        go_wp2_with fail
        go_loopw [7] (fun i wr => ∃ j : Nat, j ≤ F.size ∧ i = .int .i64 j ∧ Mid K w1.heap.size F j wr ∧ Below w1.heap.size w1 wr) (fun i _ => F.size - (intOf i).toNat)
        case atStart => exact ⟨0, by omega, rfl, hM, B3⟩
        case round =>
          clear hM B3 hc3
          obtain ⟨j, hj, rfl, hM, B⟩ := hrel
          by_cases hjt : j < F.size
          · have djt : decide ((j : Int) < (F.size : Int)) = true := by simp; omega
            have djt2 : (j : Int) < (F.size : Int) := by omega
            obtain ⟨bl, hR⟩ := hM
            have S1 : ∀ w : World, _ := fun w => slice_one9 F j w hjt
            have P3 := P2.out _ bl j hjt hR
            have gw : wrap64 ((j : Int) + 1) = (j : Int) + 1 := IntWalk.wrap64_in _ ⟨by omega, by omega⟩
            have gw2 : IntKind.i64.wrap ((j : Int) + 1) = (j : Int) + 1 := IntWalk.i64_in _ ⟨by omega, by omega⟩
            have gw3 : IntKind.i64.wrap ((F.size : Int) - 1) = (F.size : Int) - 1 := IntWalk.i64_in _ ⟨by omega, by omega⟩
            by_cases hlast : j + 1 < F.size
            · rw [if_pos hlast] at P3
              have q1 : ((j : Int) == (F.size : Int) - 1) = false := by simp; omega
              have q2 : decide ((j : Int) < (F.size : Int) - 1) = true := by simp; omega
              have hms : (midS F (j + 1)).size = j + 1 := by unfold midS; rw [if_pos hlast]; simp; omega
              go_wp2_with fail
              with_reducible refine P3.mono ?_
              rintro e w4 ⟨v1, bl1, hv1, rfl, hR1, hb1, t1⟩
              have B4 := B.trans (K.bel hR t1 (Nat.le_refl _) B.size)
              obtain ⟨x1, c1, rfl⟩ := hv1.shape
              have PW : Hid (∀ m, Calls Try.prog 13 #[.pointer (some ⟨w1.heap.size, 0, none⟩)] (w4.drewN m) fun e w' => e = .returned (.int .i64 ((midS F (j + 1)).size : Int)) ∧ ∃ x, w' = (w4.drewN m).drewN x) := fun m => K.waitsQ _ bl1 w1.heap.size _ _ (K.touch hR1 (touch_drewN (fun _ => False) w4 m) (fun _ _ x => x))
              rw [hms] at PW
              have q3 : (((j + 1 : Nat) : Int) != (j : Int) + 1) = false := by simp
              clear hv1 hb1 t1 hR P3 S1 B hms
              go_wp2_with fail
              go_quiet (first | (go_at_call 13; exact Calls.quiet_of (PW.out _)))
              have hR5 := K.touch hR1 (touch_drewN (fun _ => False) w4 nq) (fun _ _ x => x)
              have B5 := B4.trans (K.bel hR1 (touch_drewN bl1 w4 nq) (Nat.le_refl _) B4.size)
              go_wp2
              go_roundw
              case rel => exact ⟨j + 1, by omega, by go_num, ⟨bl1, hR5⟩, B5⟩
              case measure => simp [intOf]; omega
            · rw [if_neg hlast] at P3
              have q1 : ((j : Int) == (F.size : Int) - 1) = true := by simp; omega
              have q2 : decide ((j : Int) < (F.size : Int) - 1) = false := by simp; omega
              go_wp2_with fail
              with_reducible refine P3.mono ?_
              rintro e w4 ⟨v1, bl1, hv1, rfl, hR1, hb1, t1⟩
              have B4 := B.trans (K.bel hR t1 (Nat.le_refl _) B.size)
              obtain ⟨g, c1, rfl, hg1, hg2⟩ := hv1.form (by simp)
              have x1 : w4.cell? ⟨g, 0, none⟩ = some (.string S) := hv1.cell rfl 0 (by simp)
              have x2 : w4.cell? ⟨bb, oo + k, none⟩ = some (.string S) := HL.out _ B4
              rw [show ([S] : List ByteArray).length = 1 from rfl]
              clear hv1 hb1 t1 hR P3 S1 B
              go_wp2_with fail
              go_quiet (fail)
              have hR5 := K.touch hR1 (touch_drewN (fun _ => False) w4 nq) (fun _ _ x => x)
              have B5 := B4.trans (K.bel hR1 (touch_drewN bl1 w4 nq) (Nat.le_refl _) B4.size)
              go_wp2
              go_roundw
              case rel => exact ⟨j + 1, by omega, by go_num, ⟨bl1, hR5⟩, B5⟩
              case measure => simp [intOf]; omega
          · have djt : decide ((j : Int) < (F.size : Int)) = false := by simp; omega
            have hT := hM.rdy hjt
            clear hM
            go_wp2
            go_roundw
            case rel => exact ⟨k + 1, by omega, by go_num, hT, B⟩
            case measure => simp [intOf]; omega
      · have dlt : decide ((k : Int) < (n : Int)) = false := by simp; omega
        obtain ⟨bl, hR⟩ := hT
        go_wp2_with fail
        with_reducible refine (K.waits _ bl w1.heap.size _ _ hR).mono ?_
        rintro e w3 ⟨rfl, hR3, t3⟩
        have B3 := B.trans (K.bel hR t3 (Nat.le_refl _) B.size)
        go_wp2_with fail
        with_reducible refine (K.dead _ bl w1.heap.size _ _ hR3).mono ?_
        rintro e w4 ⟨rfl, hR4, t4⟩
        have B4 := B3.trans (K.bel hR3 t4 (Nat.le_refl _) B3.size)
        go_wp2
        go_ret
        exact ⟨rfl, b1.trans (B4.mono hle1)⟩

end Go.Proofs.Ytkjdklicgbjkpaa
