/- Promise P301: for all texts key and b the law MacInside answers true at the landed code: a mac is the sum of the outer key and of the sum of the inner key and the bytes. No condition; longer texts the law itself lets by. -/
import Derived.Test.YtbnhahbnggojiaaRows
import Derived.WalkKit
import Derived.ProofKit
import Derived.OpenShut
import Derived.ShutString
import Derived.Test.YtbnhahbnggojiaaMac4
namespace Go.Proofs.Ytbnhahbnggojiaa.macInside
open Go.ChangeShapes Go.WideShapes Go.ChangeAt Go.RowKit
open Go.ChangeMaps (open_string shut_string)
set_option linter.unusedVariables false      -- a walk need not use every 'w<i>' (that an integer argument fits its kind)

theorem own : ownKnob Try.prog.godebug = none := by kernel_rfl

set_option maxHeartbeats 4000000 in
set_option maxRecDepth 100000 in
theorem walk (a0 : ByteArray) (a1 : ByteArray) (w0 : a0.size ≤ maxLen) (w1 : a1.size ≤ maxLen) (w : World) :
    Calls Try.prog 7 #[.string a0, .string a1] w fun e w' => e = .returned (.bool true) ∧ Below w.heap.size w w' := by
  unfold maxLen at w0 w1
  cases d1 : decide (64 < (a0.size : Int))
  cases d2 : decide (200 < (a1.size : Int))
  · obtain ⟨k, rfl⟩ : ∃ l, a0 = str l := ⟨_, (str_back a0).symm⟩
    obtain ⟨t, rfl⟩ : ∃ l, a1 = str l := ⟨_, (str_back a1).symm⟩
    have hk := str_size k
    have ht := str_size t
    rw [hk] at d1
    rw [ht] at d2
    have h1 : k.length ≤ 64 := by rw [decide_eq_false_iff_not] at d1; omega
    have h2 : t.length ≤ 200 := by rw [decide_eq_false_iff_not] at d2; omega
    clear w0 w1
    have hmk := make8_int (64 - k.length) (64 - (k.length : Int)) (by omega) (by omega)
    have hcv := conv_new (64 - k.length) (by omega)
    have hzs := zeros_size (64 - k.length)
    have hfs := fill_short k h1
    generalize zeros (64 - k.length) = Z at *
    have hmk2 : ∀ w, (Instr.makeSlice 27 (.int .i64 64) (.int .i64 64)).run Try.prog w = .ok (.slice (some ⟨w.heap.size, 0, none⟩) 64 64) (w.alloc (zeroRow 64)) := make8 64 (by decide)
    have hfl := fillL_len k
    have po : Hid (∀ w, Calls Try.prog 10 #[.string (str k), .string (str t)] w fun e w' => e = .returned (.string (str (shaL (maskL 92 (fillL k) ++ shaL (maskL 54 (fillL k) ++ t))))) ∧ Below w.heap.size w w') := fun w => mac_of (str k) (str t) w (by omega) (by omega)
    generalize fillL k = f at *
    have m1 := maskL_len 54 f
    have m2 := maskL_len 92 f
    have c1 := str_cat (maskL 54 f) t
    have s1 := shaS_str (maskL 54 f ++ t)
    have c2 := str_cat (maskL 92 f) (shaL (maskL 54 f ++ t))
    have s2 := shaS_str (maskL 92 f ++ shaL (maskL 54 f ++ t))
    have l1 := shaL_len (maskL 54 f ++ t)
    have l2 := str_size (shaL (maskL 54 f ++ t))
    have l4 := str_size (maskL 54 f)
    have l5 := str_size (maskL 92 f)
    have l6 := str_size (maskL 54 f ++ t)
    have l7 := str_size (maskL 92 f ++ shaL (maskL 54 f ++ t))
    rw [List.length_append] at l6 l7
    generalize shaL (maskL 92 f ++ shaL (maskL 54 f ++ t)) = out at *
    generalize maskL 92 f ++ shaL (maskL 54 f ++ t) = x2 at *
    generalize shaL (maskL 54 f ++ t) = y1 at *
    generalize maskL 54 f ++ t = x1 at *
    generalize H92 : maskL 92 f = f92 at *
    generalize H54 : maskL 54 f = f54 at *
    have H92 : Hid (maskL 92 f = f92) := H92
    have H54 : Hid (maskL 54 f = f54) := H54
    have hself := str_beq_self (str out)
    have p1 : Hid (∀ w, Calls Try.prog 13 #[.string (str x1)] w fun e w' => e = .returned (.string (str y1)) ∧ Below w.heap.size w w') := fun w => by
      have := ref_sum (str x1) w (by omega)
      rwa [s1] at this
    have p2 : Hid (∀ w, Calls Try.prog 13 #[.string (str x2)] w fun e w' => e = .returned (.string (str out)) ∧ Below w.heap.size w w') := fun w => by
      have := ref_sum (str x2) w (by omega)
      rwa [s2] at this
    clear s1 s2
    have hln : ¬ (9223372036854775807 < 64 + t.length) := by omega
    go_enter Try.func7, Try.ntmps7
    go_wp2_with fail
    refine (alive3_any _).mono ?_
    rintro e w1 ⟨rfl, b⟩
    go_wp2
    have b' := b.alloc b.size (zeroRow (64 - k.length))
    generalize w1.alloc (zeroRow (64 - k.length)) = w' at *
    clear b hcv hmk
    go_cut [6, 7] (fun s6 s7 wx => ∃ gi go : Nat, s6 = .slice (some ⟨gi, 0, none⟩) 64 64 ∧ s7 = .slice (some ⟨go, 0, none⟩) 64 64 ∧ gi ≠ go ∧ w'.heap.size ≤ gi ∧ w'.heap.size ≤ go ∧ RowIs wx gi 5 (cells8 (List.replicate 64 0)) ∧ RowIs wx go 5 (cells8 (List.replicate 64 0)) ∧ Below w'.heap.size w' wx)
    case first =>
      go_region
      all_goals
        go_wp2
        go_meet
        have h2 := two_rows w'
        first
          | exact ⟨_, _, rfl, rfl, by omega, by omega, by omega, h2.1, h2.2.1, h2.2.2⟩
          | exact ⟨_, _, rfl, rfl, by omega, by omega, by omega, h2.2.1, h2.1, h2.2.2⟩
    case rest =>
      obtain ⟨gi, go, rfl, rfl, hne, hgi, hgo, hri, hro, hbel⟩ := hcut
      go_wp2
      rw [← maskTo_zero 54 f] at hri
      rw [← maskTo_zero 92 f] at hro
      go_loopw [8] (fun i wr => ∃ j : Nat, j ≤ 64 ∧ i = .int .i64 j ∧ RowIs wr gi 5 (cells8 (maskTo 54 f j)) ∧ RowIs wr go 5 (cells8 (maskTo 92 f j)) ∧ Below w'.heap.size w' wr) (fun i _ => 64 - (intOf i).toNat)
      case atStart => exact ⟨0, by omega, rfl, hri, hro, hbel⟩
      case round =>
        clear hri hro hbel
        obtain ⟨j, hj, rfl, hri, hro, hbel⟩ := hrel
        by_cases hlt : j < 64
        · obtain ⟨v1, hc1⟩ := row_mask_cell hri hfl hlt
          obtain ⟨v2, hc2⟩ := row_mask_cell hro hfl hlt
          have hf1 := hri.frozen j
          have hf2 := hro.frozen j
          have hss := str_size f
          have hjs : j < (str f).size := by omega
          have hx1 : bits BinOp.xor IntKind.u8 ((str f)[j].toNat : Int) 54 = (((str f)[j].toNat ^^^ 54 : Nat) : Int) := u8_xor_nat _ 54 (UInt8.toNat_lt _) (by decide)
          have hx2 : bits BinOp.xor IntKind.u8 ((str f)[j].toNat : Int) 92 = (((str f)[j].toNat ^^^ 92 : Nat) : Int) := u8_xor_nat _ 92 (UInt8.toNat_lt _) (by decide)
          have HX : Hid (f[j]? = some (str f)[j]) := by rw [Hid, List.getElem?_eq_getElem (by omega)]; rfl
          go_wp2
          go_region
          all_goals
            go_wp2
            go_roundw
            case rel =>
              have r1 := row_mask hri hfl hlt HX.out
              have r2 := row_mask hro hfl hlt HX.out
              first
                | exact ⟨j + 1, by omega, by go_num, (r1.setOther (a := ⟨go, j, none⟩) hne _).drew, (row_mask (hro.setOther (a := ⟨gi, j, none⟩) (Ne.symm hne) _) hfl hlt HX.out).drew, ((hbel.setCell hgi _).setCell hgo _).drew⟩
                | exact ⟨j + 1, by omega, by go_num, (row_mask (hri.setOther (a := ⟨go, j, none⟩) hne _) hfl hlt HX.out).drew, (r2.setOther (a := ⟨gi, j, none⟩) (Ne.symm hne) _).drew, ((hbel.setCell hgo _).setCell hgi _).drew⟩
            case measure => simp [intOf]; omega
        · have hj64 : j = 64 := by omega
          subst hj64
          rw [maskTo_all 54 f hfl, H54.out] at hri
          rw [maskTo_all 92 f hfl, H92.out] at hro
          go_wp2
          replace hri := hri.drew
          replace hro := hro.drew
          have b : Below w.heap.size w wr.drew := b'.trans (hbel.drew.mono b'.size)
          clear hbel b'
          go_region_held3 (fun w' => RowIs w' gi 5 (cells8 f54) ∧ RowIs w' go 5 (cells8 f92) ∧ (convert 27 9 (.slice (some ⟨gi, 0, none⟩) 64 64)).run Try.prog w' = .ok (.string (str f54)) w' ∧ (convert 27 9 (.slice (some ⟨go, 0, none⟩) 64 64)).run Try.prog w' = .ok (.string (str f92)) w') (exact rows_hold hri hro (by omega) (by omega)) (first | (go_at_call 13; (first | with_reducible refine (p1.out _).mono ?_ | with_reducible refine (p2.out _).mono ?_); rintro e w5 ⟨rfl, b5⟩; replace hri := hri.below b5 hri.lt; replace hro := hro.below b5 hro.lt; replace b := bel_chain b b5; clear b5) | (go_at_call 10; refine (po.out _).mono ?_; rintro e w5 ⟨rfl, b5⟩; replace hri := hri.below b5 hri.lt; replace hro := hro.below b5 hro.lt; replace b := bel_chain b b5; clear b5))
          all_goals
            go_wp2
            go_ret
            exact ⟨rfl, b⟩
  all_goals
    go_enter Try.func7, Try.ntmps7
    go_wp2_with fail
    refine (alive3_any _).mono ?_
    rintro e w1 ⟨rfl, b1⟩
    go_wp2
    go_ret
    exact ⟨rfl, b1⟩

set_option maxRecDepth 100000 in
theorem lifted (os : Os) (started : os.Started) (H : Type) (enc : TypeId × Value → H) :
    ReturnsInHanded {} Try.checked os 7 .any (Rows.macInsideSpec.pre6 enc Try.prog Try.f7 Rows.macInsideRow.domain false) (Rows.macInsideSpec.post enc Try.prog Try.f7 false true false false) := by
  refine returnsInHanded_of_change (C := Try.checked) own started (by kernel_rfl) Try.func7
    (ChangeSpec.witness6 (enc := enc) (C := Try.checked) false ⟨#[], #[.string ByteArray.empty, .string ByteArray.empty], []⟩ 8 (by kernel_rfl) (by kernel_rfl) (by kernel_rfl) (by kernel_rfl)) ?_
  intro W base args ds gs before hval0 hW hcnd _
  have hval : ∀ (j : Nat) t v, Try.f7.params[j]? = some t → args[j]? = some v → Value.okWide Try.prog W .any base t v := hval0
  have hW' := hW
  obtain ⟨p, q, hA0, hV, rfl, hfz, hnd⟩ := hW
  have hA : DataW.TrodAll enc Try.prog W 0 (fun _ => true) true Try.f7.params.toList args.toList ds p := hA0
  rw [Try.params7] at hA hval
  obtain ⟨v0, vs0, d0, ds0, p0, q0, hargs, rfl, rfl, h0, r0⟩ := trodAll_cons hA
  obtain ⟨v1, vs1, d1, ds1, p1, q1, rfl, rfl, rfl, h1, r1⟩ := trodAll_cons r0
  obtain ⟨rfl, rfl, rfl⟩ := trodAll_nil r1
  obtain rfl : args = #[v0, v1] := by cases args; simp_all
  obtain ⟨rfl, rfl⟩ := trodVars_none hV
  obtain ⟨a0, rfl, rfl, rfl, w0⟩ := open_string Try.underlying9 (hval 0 9 v0 rfl rfl) h0
  obtain ⟨a1, rfl, rfl, rfl, w1⟩ := open_string Try.underlying9 (hval 1 9 v1 rfl rfl) h1
  clear hA0 hval0
  simp only [List.append_nil] at hW'
  refine (walk a0 a1 w0 w1 W).mono fun e W' ⟨he, hg⟩ => ?_
  subst he
  exact ⟨_, rfl, _, _, _, [], [], [], hW', (trodAll_cons_mk (shut_bool Try.underlying4 _) trodAll_mk0), (trodAll_cons_mk (shut_string Try.underlying9 w0) (trodAll_cons_mk (shut_string Try.underlying9 w1) trodAll_mk0)), rfl, hg.frame _, fun h => by cases h⟩

theorem over : Rows.macInsideRow.holds Try.pinned (OpenSpec.ofChange Rows.macInsideSpec) :=
  OpenClaim.holds_of_wide 7 Try.f7 rfl rfl rfl rfl rfl rfl rfl ⟨rfl, rfl, rfl, rfl, rfl⟩ rfl rfl rfl rfl rfl (by kernel_rfl) Try.func7 (by kernel_rfl)
    (of_decide_eq_true (by kernel_rfl)) (by unfold Func.isWrapper; first | (rw [if_pos (by decide +kernel)]; kernel_rfl) | (rw [if_neg (by decide +kernel)]; exact ⟨rfl, rfl⟩))
    (fun os started H enc _ => lifted os started H enc)

theorem proved : Rows.MacInsideSaid :=
  over
#print axioms proved
end Go.Proofs.Ytbnhahbnggojiaa.macInside
