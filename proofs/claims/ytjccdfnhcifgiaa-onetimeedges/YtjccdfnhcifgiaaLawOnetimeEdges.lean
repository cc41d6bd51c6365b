/- Promise P601: for all numbers at and n and all bytes c and d the law OnetimeEdges answers true at the landed code: under keys and over bytes that are all ones, or nearly, onetime.Tag tells the document's own reckoning (the reference). No condition; numbers n below 0 or above 200 the law itself lets by. -/
import Derived.Test.YtjccdfnhcifgiaaRows
import Derived.WalkKit
import Derived.ProofKit
import Derived.OpenShut
import Derived.ShutString
import Derived.Test.YtjccdfnhcifgiaaEdg6
namespace Go.Proofs.Ytjccdfnhcifgiaa.onetimeEdges
open Go.ChangeShapes Go.WideShapes Go.ChangeAt Go.RowKit
open Go.ChangeMaps (open_string shut_string)
set_option linter.unusedVariables false      -- a walk need not use every 'w<i>' (that an integer argument fits its kind)

theorem own : ownKnob Try.prog.godebug = none := by kernel_rfl

set_option maxHeartbeats 4000000 in
set_option maxRecDepth 100000 in
theorem walk (a0 : Int) (a1 : Int) (a2 : Int) (a3 : Int) (w0 : (Lit.int .i64 a0).wf = true) (w1 : (Lit.int .i64 a1).wf = true) (w2 : (Lit.int .u8 a2).wf = true) (w3 : (Lit.int .u8 a3).wf = true) (w : World) :
    Calls Try.prog 4 #[.int .i64 a0, .int .i64 a1, .int .u8 a2, .int .u8 a3] w fun e w' => e = .returned (.bool true) ∧ Below w.heap.size w w' := by
  have ba := bounds_i64 w0
  have bn := bounds_i64 w1
  have bc := bounds_u8 w2
  have bd := bounds_u8 w3
  by_cases d1 : a1 < 0
  · go_enter Try.func4, Try.ntmps4
    go_wp2_with fail
    refine (alive6_any _).mono ?_
    rintro e w1 ⟨rfl, b⟩
    go_wp2
    go_ret
    exact ⟨rfl, b⟩
  by_cases d2 : 200 < a1
  · go_enter Try.func4, Try.ntmps4
    go_wp2_with fail
    refine (alive6_any _).mono ?_
    rintro e w1 ⟨rfl, b⟩
    go_wp2
    go_ret
    exact ⟨rfl, b⟩
  obtain ⟨N, rfl⟩ : ∃ N : Nat, a1 = (N : Int) := ⟨a1.toNat, by omega⟩
  have hN : N ≤ 200 := by omega
  obtain ⟨i8, hi8, hy0, hy1, hy2⟩ := info_parts info8
  have hpl : (-(32 : Int) < a0.tmod 32 ∧ a0.tmod 32 < 32) ∧ ∃ J : Nat, J < 32 ∧ (a0.tmod 32 + 32).tmod 32 = (J : Int) := place_of a0 32 (by decide)
  obtain ⟨⟨hr1, hr2⟩, J, hJ, hJe⟩ := hpl
  have hcb := byte_of_int a2 (by omega) (by omega)
  have hdb := byte_of_int a3 (by omega) (by omega)
  clear ba bn w0 w1 w2 w3
  go_enter Try.func4, Try.ntmps4
  go_wp2_with fail
  refine (alive6_any _).mono ?_
  rintro e w1 ⟨rfl, b⟩
  go_wp2_with (first | (at_make; refine wpList_make_full _ rfl _ _ 30 rfl w1.heap.size 5 i8 (.int .u8 0) 1 Try.underlying30 hi8 hy0 hy1 .i64 .i64 32 32 32 rfl rfl rfl rfl (by rw [hy2]; omega) (by unfold maxLen; omega) (Nat.le_refl _) ?_))
  intro w2 hown2 hgrow2
  rw [made8] at hown2
  have b2 : Below w1.heap.size w1 w2 := (Below.refl _ w1).grown hgrow2 (Nat.le_refl _) (by intro k hk; cases hk)
  have hsz2 : w1.heap.size < w2.heap.size := by
    obtain ⟨_, _, hf, _, hlt⟩ := hown2.form (by decide)
    simp only [Value.slice.injEq, Option.some.injEq, Addr.mk.injEq, and_true] at hf
    omega
  have hbel2 : Below w.heap.size w w2 := bel_on b b2
  have hB0 : w.heap.size ≤ w1.heap.size := b.size
  generalize hB : w1.heap.size = B at *
  clear hB b b2 hgrow2
  go_wp2_with fail
  go_loopw [10] (fun iv wr => ∃ (q : Nat) (l : List UInt8), q ≤ 32 ∧ iv = .int .i64 (q : Int) ∧ l.length = 32 ∧ wr.ownsRow B 5 1 (.slice (some ⟨B, 0, none⟩) 32 32) 32 (cells8 l) ∧ w2.heap.size ≤ wr.heap.size ∧ Below w.heap.size w wr) (fun i _ => 32 - (intOf i).toNat)
  case atStart => exact ⟨0, List.replicate 32 0, Nat.zero_le _, rfl, by simp, hown2, Nat.le_refl _, hbel2⟩
  case round =>
    clear hown2 hbel2
    obtain ⟨q, l, hq, rfl, hl, hown, hsz, hbel⟩ := hrel
    by_cases hql : q < 32
    · have hcell := hown.cellAt q (by omega)
      have hfz := hown.frozenAt q
      rw [cells8_at l q (by omega)] at hcell
      have hs := (own_store hown (Below.refl B wr) (Nat.le_refl _) q 255).1
      go_wp2
      go_roundw
      case rel => exact ⟨q + 1, l.set q 255, by omega, by go_num, by rw [List.length_set, hl], hs, by simpa [World.setCell] using hsz, hbel.setCell hB0 _⟩
      case measure => simp [intOf]; omega
    · obtain rfl : q = 32 := by omega
      have hcell := hown.cellAt J (by omega)
      have hfz := hown.frozenAt J
      rw [cells8_at l J (by omega)] at hcell
      have hs := (own_store hown (Below.refl B wr) (Nat.le_refl _) J (UInt8.ofNat a2.toNat)).1
      rw [hcb] at hs
      have hbel2 : Below w.heap.size w (wr.setCell ⟨B, J, none⟩ (.int .u8 a2)) := hbel.setCell hB0 _
      have hl2 : (l.set J (UInt8.ofNat a2.toNat)).length = 32 := by rw [List.length_set, hl]
      have hsz3 : w2.heap.size ≤ (wr.setCell ⟨B, J, none⟩ (.int .u8 a2)).heap.size := by simpa [World.setCell] using hsz
      generalize l.set J (UInt8.ofNat a2.toNat) = lk at *
      have HW3 : Hid (∃ w3, w3 = wr.setCell ⟨B, J, none⟩ (.int .u8 a2)) := ⟨_, rfl⟩
      obtain ⟨w3, hw3⟩ := HW3.out
      rw [← hw3] at hs hbel2 hsz3
      have H3 : Hid (wr.setCell ⟨B, J, none⟩ (.int .u8 a2) = w3) := hw3.symm
      clear hw3 HW3 hown hbel hsz
      have hJ32 : (J : Int) < 32 := by omega
      have hd32 : decide (((32 : Nat) : Int) < 32) = false := by decide
      go_wp2_with (first | (at_make; rw [H3.out]; refine wpList_make_full _ rfl _ _ 30 rfl w3.heap.size 5 i8 (.int .u8 0) 1 Try.underlying30 hi8 hy0 hy1 .i64 .i64 N N N rfl rfl rfl rfl (by rw [hy2]; omega) (by unfold maxLen; omega) (Nat.le_refl _) ?_))
      intro w4 hown4 hgrow4
      rw [made8] at hown4
      have b4 : Below w3.heap.size w3 w4 := (Below.refl _ w3).grown hgrow4 (Nat.le_refl _) (by intro k hk; cases hk)
      have hk4 := owns_below hs b4
      have hbel4 : Below w.heap.size w w4 := bel_on hbel2 b4
      have hB2 : w.heap.size ≤ w3.heap.size := hbel2.size
      have hBB : B < w3.heap.size := by omega
      generalize hBq : w3.heap.size = B2 at *
      clear hBq b4 hgrow4 hs hcell hfz hbel2 H3 hsz3
      have hNE : B ≠ B2 := by omega
      go_wp2_with fail
      go_loopw [12] (fun iv wr => ∃ (q : Nat) (lb : List UInt8), q ≤ N ∧ iv = .int .i64 (q : Int) ∧ lb.length = N ∧ wr.ownsRow B2 5 1 (.slice (some ⟨B2, 0, none⟩) N N) N (cells8 lb) ∧ wr.ownsRow B 5 1 (.slice (some ⟨B, 0, none⟩) 32 32) 32 (cells8 lk) ∧ Below w.heap.size w wr) (fun i _ => N - (intOf i).toNat)
      case atStart => exact ⟨0, List.replicate N 0, Nat.zero_le _, rfl, by simp, hown4, hk4, hbel4⟩
      case round =>
        clear hown4 hk4 hbel4
        obtain ⟨q, lb, hq, rfl, hlb, hown, hk4, hbel⟩ := hrel
        by_cases hql : q < N
        · have hcell := hown.cellAt q (by omega)
          have hfz := hown.frozenAt q
          rw [cells8_at lb q (by omega)] at hcell
          have hs := (own_store hown (Below.refl B2 wr) (Nat.le_refl _) q 255).1
          have hk5 := owns_other hk4 (a := ⟨B2, q, none⟩) hNE (.int .u8 255)
          have hqN : (q : Int) < (N : Int) := by omega
          go_wp2
          go_roundw
          case rel => exact ⟨q + 1, lb.set q 255, by omega, by go_num, by rw [List.length_set, hlb], hs, hk5, hbel.setCell hB2 _⟩
          case measure => simp [intOf]; omega
        · obtain rfl : q = N := by omega
          have hdN : decide ((q : Int) < (q : Int)) = false := by simp
          by_cases hpos : 0 < q
          · obtain ⟨⟨hs1, hs2⟩, J2, hJ2, hJ2e⟩ := place_of a0 q hpos
            have hcell := hown.cellAt J2 (by omega)
            have hfz := hown.frozenAt J2
            rw [cells8_at lb J2 (by omega)] at hcell
            have hown5 := (own_store hown (Below.refl B2 wr) (Nat.le_refl _) J2 (UInt8.ofNat a3.toNat)).1
            rw [hdb] at hown5
            have hbel5 : Below w.heap.size w (wr.setCell ⟨B2, J2, none⟩ (.int .u8 a3)) := hbel.setCell hB2 _
            replace hk4 := owns_other hk4 (a := ⟨B2, J2, none⟩) hNE (.int .u8 a3)
            have hlb2 : (lb.set J2 (UInt8.ofNat a3.toNat)).length = q := by rw [List.length_set, hlb]
            generalize lb.set J2 (UInt8.ofNat a3.toNat) = lb at *
            have hJN : (J2 : Int) < (q : Int) := by omega
            have hq0 : ¬ ((q : Int) = 0) := by omega
            have hq0' : 0 < (q : Int) := by omega
            have hqz : q ≠ 0 := by omega
            clear hown hbel
            have hkc := own_string hk4
            have hbc := own_string hown5
            have hks : (str lk).size = 32 := by rw [str_size, hl2]
            have hbs : (str lb).size ≤ 200 := by rw [str_size, hlb2]; exact hN
            have p1 := fun w => onetime_tag_yes (str lk) (str lb) w hks (by omega)
            have p2 := fun w => ref_tag (str lk) (str lb) w hks (by omega)
            have hself := str_beq_self (tagS (str lk) (str lb))
            generalize tagS (str lk) (str lb) = T at *
            have P1 : Hid _ := p1
            have P2 : Hid _ := p2
            clear p1 p2
            go_wp2_with fail
            with_reducible refine (P1.out _).mono ?_
            rintro e w' ⟨rfl, b'⟩
            have hkc' := own_string (owns_below hk4 b')
            have hbc' := own_string (owns_below hown5 b')
            have hbel6 := bel_on hbel5 b'
            clear b'
            go_wp2_with fail
            with_reducible refine (P2.out _).mono ?_
            rintro e w' ⟨rfl, b'⟩
            go_wp2
            go_ret
            exact ⟨rfl, bel_on hbel6 b'⟩
          · have hown5 := hown
            have hbel5 := hbel
            have hlb2 := hlb
            have hq0' : ¬ (0 < (q : Int)) := by omega
            clear hown hbel hlb
            have hkc := own_string hk4
            have hbc := own_string hown5
            have hks : (str lk).size = 32 := by rw [str_size, hl2]
            have hbs : (str lb).size ≤ 200 := by rw [str_size, hlb2]; exact hN
            have p1 := fun w => onetime_tag_yes (str lk) (str lb) w hks (by omega)
            have p2 := fun w => ref_tag (str lk) (str lb) w hks (by omega)
            have hself := str_beq_self (tagS (str lk) (str lb))
            generalize tagS (str lk) (str lb) = T at *
            have P1 : Hid _ := p1
            have P2 : Hid _ := p2
            clear p1 p2
            go_wp2_with fail
            with_reducible refine (P1.out _).mono ?_
            rintro e w' ⟨rfl, b'⟩
            have hkc' := own_string (owns_below hk4 b')
            have hbc' := own_string (owns_below hown5 b')
            have hbel6 := bel_on hbel5 b'
            clear b'
            go_wp2_with fail
            with_reducible refine (P2.out _).mono ?_
            rintro e w' ⟨rfl, b'⟩
            go_wp2
            go_ret
            exact ⟨rfl, bel_on hbel6 b'⟩

set_option maxRecDepth 100000 in
theorem lifted (os : Os) (started : os.Started) (H : Type) (enc : TypeId × Value → H) :
    ReturnsInHanded {} Try.checked os 4 .any (Rows.onetimeEdgesSpec.pre6 enc Try.prog Try.f4 Rows.onetimeEdgesRow.domain false) (Rows.onetimeEdgesSpec.post enc Try.prog Try.f4 false true false false) := by
  refine returnsInHanded_of_change (C := Try.checked) own started (by kernel_rfl) Try.func4
    (ChangeSpec.witness6 (enc := enc) (C := Try.checked) false ⟨#[], #[.int .i64 0, .int .i64 0, .int .u8 0, .int .u8 0], []⟩ 8 (by kernel_rfl) (by kernel_rfl) (by kernel_rfl) (by kernel_rfl)) ?_
  intro W base args ds gs before hval0 hW hcnd _
  have hval : ∀ (j : Nat) t v, Try.f4.params[j]? = some t → args[j]? = some v → Value.okWide Try.prog W .any base t v := hval0
  have hW' := hW
  obtain ⟨p, q, hA0, hV, rfl, hfz, hnd⟩ := hW
  have hA : DataW.TrodAll enc Try.prog W 0 (fun _ => true) true Try.f4.params.toList args.toList ds p := hA0
  rw [Try.params4] at hA hval
  obtain ⟨v0, vs0, d0, ds0, p0, q0, hargs, rfl, rfl, h0, r0⟩ := trodAll_cons hA
  obtain ⟨v1, vs1, d1, ds1, p1, q1, rfl, rfl, rfl, h1, r1⟩ := trodAll_cons r0
  obtain ⟨v2, vs2, d2, ds2, p2, q2, rfl, rfl, rfl, h2, r2⟩ := trodAll_cons r1
  obtain ⟨v3, vs3, d3, ds3, p3, q3, rfl, rfl, rfl, h3, r3⟩ := trodAll_cons r2
  obtain ⟨rfl, rfl, rfl⟩ := trodAll_nil r3
  obtain rfl : args = #[v0, v1, v2, v3] := by cases args; simp_all
  obtain ⟨rfl, rfl⟩ := trodVars_none hV
  obtain ⟨a0, rfl, rfl, rfl, w0⟩ := open_int Try.underlying3 (hval 0 3 v0 rfl rfl) h0
  obtain ⟨a1, rfl, rfl, rfl, w1⟩ := open_int Try.underlying3 (hval 1 3 v1 rfl rfl) h1
  obtain ⟨a2, rfl, rfl, rfl, w2⟩ := open_int Try.underlying5 (hval 2 5 v2 rfl rfl) h2
  obtain ⟨a3, rfl, rfl, rfl, w3⟩ := open_int Try.underlying5 (hval 3 5 v3 rfl rfl) h3
  clear hA0 hval0
  simp only [List.append_nil] at hW'
  refine (walk a0 a1 a2 a3 w0 w1 w2 w3 W).mono fun e W' ⟨he, hg⟩ => ?_
  subst he
  exact ⟨_, rfl, _, _, _, [], [], [], hW', (trodAll_cons_mk (shut_bool Try.underlying4 _) trodAll_mk0), (trodAll_cons_mk (shut_int Try.underlying3 w0) (trodAll_cons_mk (shut_int Try.underlying3 w1) (trodAll_cons_mk (shut_int Try.underlying5 w2) (trodAll_cons_mk (shut_int Try.underlying5 w3) trodAll_mk0)))), rfl, hg.frame _, fun h => by cases h⟩

theorem over : Rows.onetimeEdgesRow.holds Try.pinned (OpenSpec.ofChange Rows.onetimeEdgesSpec) :=
  OpenClaim.holds_of_wide 4 Try.f4 rfl rfl rfl rfl rfl rfl rfl ⟨rfl, rfl, rfl, rfl, rfl⟩ rfl rfl rfl rfl rfl (by kernel_rfl) Try.func4 (by kernel_rfl)
    (of_decide_eq_true (by kernel_rfl)) (by unfold Func.isWrapper; first | (rw [if_pos (by decide +kernel)]; kernel_rfl) | (rw [if_neg (by decide +kernel)]; exact ⟨rfl, rfl⟩))
    (fun os started H enc _ => lifted os started H enc)

theorem proved : Rows.OnetimeEdgesSaid :=
  over
#print axioms proved
end Go.Proofs.Ytjccdfnhcifgiaa.onetimeEdges
