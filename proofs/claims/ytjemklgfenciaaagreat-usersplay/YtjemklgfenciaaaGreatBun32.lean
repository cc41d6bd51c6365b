/-
  Parts of this proof, one behind the other: Usr20, Usr23, Usr21.
-/
import Derived.Test.YtjemklgfenciaaaGreatBun31
import Derived.Laws.Cover1
import Derived.Deep.CutRange
import Derived.Deep.CutBlock

/-
  The law on every play, at users that may be.
-/
namespace Go.Proofs.YtjemklgfenciaaaGreat
open Go.RowKit
set_option linter.unusedVariables false
set_option maxRecDepth 100000
set_option linter.unusedSimpArgs false

set_option maxHeartbeats 4000000 in
theorem usersPlay_yesRaw (K : UsersKeeps) (oa : Option Addr) (n c : Nat) (X : Nat → NS) (o2 : Option Addr) (n2 c2 : Nat) (X2 : Nat → Uop) (ask : Int) (w : World) (hx : PairsAt w oa n X) (hz : ∀ i, i < n → (X i).1.size ≤ maxLen ∧ (X i).2.size ≤ maxLen) (hno : oa = none → c = 0 ∧ n = 0) (hn : n ≤ 40) (hn2 : n2 ≤ 100) (hs2 : UopsAt w o2 n2 X2) (hw2 : ∀ i, i < n2 → (X2 i).Wide) (hask : I64U ask) (hok : usersOk (listU X n) = true) :
    Calls Tryz.prog 3 #[.slice oa n c, .bool true, .slice o2 n2 c2, .int .i64 ask] w fun e w' => e = .returned (.bool true) ∧ Below w.heap.size w w' := by
  have PA : Hid _ := alive14_of K
  have HX : Hid (PairsAt w oa n X) := hx
  have HZ : Hid _ := hz
  have HOK : Hid (usersOk (listU X n) = true) := hok
  have HNO : Hid (oa = none → c = 0 ∧ n = 0) := hno
  have HU2 : Hid (UopsAt w o2 n2 X2 ∧ ∀ i, i < n2 → (X2 i).Wide) := ⟨hs2, hw2⟩
  have HL : Hid ((freshU (listU X n)).length = n) := freshU_len14 X n
  have PN : Hid (∀ w1, Below w.heap.size w w1 → Calls Tryz.prog 6 #[.slice oa n c] w1 fun e w' => ∃ p, e = .returned (.tuple #[.pointer (some ⟨p, 0, none⟩), .int .i64 0]) ∧ Here w [UsersTh K p (freshU (listU X n))] w') := fun w1 hb =>
    Here.newUsers K (Here.start' hb) oa n c X (HX.out.later hb) (by unfold maxLen; omega) HZ.out HOK.out
  have PU : Hid (∀ w1, Below w.heap.size w w1 → Calls Tryz.prog 9 #[.slice oa n c] w1 fun e w' => e = .returned (.bool true) ∧ Below w1.heap.size w1 w') := fun w1 hb => by
    refine (refU_users w1 oa n c X (HX.out.later hb) (by omega) HZ.out).mono ?_
    rintro e w' ⟨rfl, hbel⟩
    rw [HOK.out]
    exact ⟨rfl, hbel⟩
  have PB : Hid (∀ w1 l, Here w l w1 → Calls Tryz.prog 10 #[.slice oa n c] w1 fun e w' => ∃ r vL gF gU gK, e = .returned (.pointer (some ⟨r, 0, none⟩)) ∧ Here w (RefBkTh r vL gF gU gK (freshU (listU X n)) :: l) w') := fun w1 l h => h.refBooks oa n c X (HX.out.later h.bel) HNO.out (by omega)
  have d1 : decide ((40 : Int) < (n : Int)) = false := decide_eq_false (by omega)
  have d2 : decide ((100 : Int) < (n2 : Int)) = false := decide_eq_false (by omega)
  clear hok hx hz hno hs2 hw2
  go_enter Tryz.func3, Tryz.ntmps3
  go_wp2_with fail
  with_reducible refine (PA.out _).mono ?_
  rintro e w1 ⟨rfl, b⟩
  go_wp2_with fail
  with_reducible refine (PN.out _ b).mono ?_
  rintro e w2 ⟨p, rfl, hH⟩
  clear b PA PN
  have HH : Hid _ := hH
  clear hH
  go_wp2_with fail
  go_loopw [11] (fun i wr => ∃ k : Nat, k ≤ n ∧ i = .int .i64 k ∧ Hid (Here w [UsersTh K p (freshU (listU X n))] wr)) (fun i _ => n - (intOf i).toNat)
  case atStart => exact ⟨0, Nat.zero_le _, rfl, HH⟩
  case round =>
    clear HH
    obtain ⟨k, hk, rfl, hH⟩ := hrel
    by_cases hlt : k < n
    · have dlt : decide ((k : Int) < (n : Int)) = true := decide_eq_true (by omega)
      have i0 : (0 : Int) ≤ (k : Int) := by omega
      have i1 : (k : Int) < (n : Int) := by omega
      obtain ⟨bb, oo, rfl, c1, c2⟩ := (HX.out.later hH.out.bel) k hlt
      obtain ⟨z1, z2⟩ := HZ.out k hlt
      have PR : Hid _ := fun w1 => K.right w1 (X k).1 (X k).2 z1 z2
      have PF : Hid _ := fun w1 => refU_user (X k).1 (X k).2 w1 z1 z2
      clear z1 z2
      generalize userOkU (X k).1 (X k).2 = q at *
      generalize (X k).1 = A at *
      generalize (X k).2 = B at *
      generalize hoo : oo + k * 2 = o1 at *
      have bw : Below wr.heap.size wr wr.drew := (Below.refl _ _).drew
      go_wp2_with fail
      go_region_held3 (fun w' => w'.cell? ⟨bb, o1, none⟩ = some (.string A) ∧ w'.cell? ⟨bb, o1 + 1, none⟩ = some (.string B)) (exact ⟨cell_belowB bw c1, cell_belowB bw c2⟩) (first | (go_at_call 7; (with_reducible refine (PR.out _).mono ?_); rintro e w5 ⟨rfl, b5⟩; replace bw := bel_chain8 bw b5; clear b5) | (go_at_call 8; (with_reducible refine (PF.out _).mono ?_); rintro e w5 ⟨rfl, b5⟩; replace bw := bel_chain8 bw b5; clear b5))
      all_goals
        have hb1 : Hid (Here w [UsersTh K p (freshU (listU X n))] _) := hH.out.below bw
        clear bw
        go_wp2
        go_roundw
        case rel => exact ⟨k + 1, by omega, by go_num, hb1⟩
        case measure => simp [intOf]; omega
    · have dlt : decide ((k : Int) < (n : Int)) = false := decide_eq_false (by omega)
      go_wp2_with fail
      with_reducible refine (PU.out _ hH.out.bel).mono ?_
      rintro e w4 ⟨rfl, b4⟩
      have h4 := hH.out.below b4
      clear b4 hH
      go_wp2_with fail
      with_reducible refine (PB.out _ _ h4).mono ?_
      rintro e w5 ⟨r, vL, gF, gU, gK, rfl, h5⟩
      clear h4
      have h6 := h5.newBookU
      unfold rowT at h6
      clear h5
      generalize hq : w5.heap.size = q at *
      go_wp2_with fail
      with_reducible refine (h6.userNames 2 rfl).mono ?_
      rintro e w6 ⟨a1, c1, L1, rfl, hN1, h7⟩
      clear h6
      have hL1 : L1.length ≤ 10000 := by rw [hN1.len, HL.out]; omega
      go_wp2_with fail
      with_reducible refine (h7.bookTexts 0 rfl (by decide) hL1).mono ?_
      rintro e w7 ⟨rfl, h8⟩
      clear h7
      go_wp2_with fail
      with_reducible refine (Here.userNames h8 2 rfl).mono ?_
      rintro e w8 ⟨a2, c2, L2, rfl, hN2, h9⟩
      clear h8
      have hL2 : L2.length ≤ 10000 := by rw [hN2.len, HL.out]; omega
      go_wp2_with fail
      with_reducible refine (h9.bookTexts 0 rfl (by decide) hL2).mono ?_
      rintro e w9 ⟨rfl, h10⟩
      clear h9
      go_wp2_with fail
      with_reducible refine (Here.userNames h10 2 rfl).mono ?_
      rintro e w10 ⟨a3, c3, L3, rfl, hN3, h11⟩
      clear h10
      have hL3 : (L3.length : Int) = (n : Int) := by rw [hN3.len, HL.out]
      have dne : (((L3.length : Nat) : Int) != (n : Int)) = false := by rw [hL3]; simp
      go_wp2_with fail
      clear hN1 hN2 hL1 hL2
      have HN : Hid _ := hN3
      have HH : Hid _ := h11
      clear h11 hN3
      go_loopw [15] (fun i wr2 => ∃ k : Nat, k ≤ n ∧ i = .int .i64 k ∧ Hid (Here w [TextsTh w.heap.size (.slice a3 L3.length c3) L3, BookTh w.heap.size q 2 (some (.slice a2 L2.length c2, L2)), RefBkTh r vL gF gU gK (freshU (listU X n)), UsersTh K p (freshU (listU X n))] wr2)) (fun i _ => n - (intOf i).toNat)
      case atStart => exact ⟨0, Nat.zero_le _, rfl, HH⟩
      case round =>
        clear HH
        obtain ⟨j, hj, rfl, hH⟩ := hrel
        by_cases hlt : j < n
        · have dlt : decide ((j : Int) < ((L3.length : Nat) : Int)) = true := decide_eq_true (by omega)
          have ho := hH.out.texts 0 rfl
          have hj3 : j < L3.length := by omega
          obtain ⟨g3, rfl, hc⟩ := own_textCells ho (by omega)
          have cj := hc j hj3
          have hhas := HN.out.has hj3
          obtain ⟨nm, hnm⟩ : ∃ nm, L3.getD j ⟨#[]⟩ = nm := ⟨_, rfl⟩
          rw [hnm] at cj hhas
          have Hnm : Hid (L3.getD j ⟨#[]⟩ = nm) := hnm
          clear hnm
          have hsz : nm.size ≤ maxLen := by
            have h1 := ((freshU_ok HOK.out).each _ (List.mem_of_getElem? (atU_get hhas))).1
            rw [atU_name hhas] at h1
            unfold userOkU nameOkU at h1
            simp at h1
            unfold maxLen
            omega
          have PS := hH.out.userSecret 3 nm rfl hsz hhas
          have hHas : Hid _ := hhas
          have hcl : Hid _ := hc
          have j0 : (0 : Int) ≤ (j : Int) := by omega
          have j1 : (j : Int) < ((L3.length : Nat) : Int) := by omega
          clear ho hc hhas hsz
          go_wp2_with fail
          with_reducible refine PS.mono ?_
          rintro e w12 ⟨rfl, hH2⟩
          clear PS cj hH
          obtain ⟨g3', eg3, hc2⟩ := own_textCells (hH2.texts 0 rfl) (by omega)
          obtain rfl : g3 = g3' := by injection eg3 with eg3; injection eg3
          clear eg3 hcl
          have hB := hH2.refBk 2 rfl
          have hix0 := atV_yes hHas.out
          have PAt : Hid (∀ m, Calls Tryz.prog 14 #[.pointer (some ⟨r, 0, none⟩), .string nm] (w12.drewN m) fun e w' => e = .returned (.int .i64 (idxU (freshU (listU X n)) nm : Int)) ∧ w' = w12.drewN m) := fun m => by
            refine ((hH2.drewN m).refAt 2 nm rfl (by rw [HL.out]; omega)).mono ?_
            rintro e w' ⟨rfl, rfl⟩
            rw [atV_yes hHas.out]
            exact ⟨rfl, rfl⟩
          obtain ⟨lb, lo, lcap, rfl, hsec, hix⟩ := hB.secretAt hHas.out
          obtain ⟨hl0, hl1⟩ := hB.listCell
          have cj := hc2 j hj3
          rw [Hnm.out] at cj
          rw [HL.out] at hl0 hix
          have hR := HN.out.rise (i := j)
          have hH3 : Hid _ := hH2
          clear hB hix0 hH2 hl1
          generalize idxU (freshU (listU X n)) nm = ix at *
          generalize (atU (freshU (listU X n)) nm).secret = sec at *
          have es := str_beq_self sec
          have x0 : decide ((ix : Int) < 0) = false := decide_eq_false (by omega)
          have x1 : (0 : Int) ≤ (ix : Int) := by omega
          have x2 : (ix : Int) < (n : Int) := by omega
          by_cases hj0 : j = 0
          · subst hj0
            clear hc2 hR
            go_wp2_with fail
            go_quiet (first | (go_at_call 14; exact Calls.quiet_of_same (PAt.out _)))
            go_wp2
            go_roundw
            case rel => exact ⟨1, by omega, by go_num, hH3.out.drewN _⟩
            case measure => simp [intOf]; omega
          · have hR1 := hR (by omega) hj3
            rw [Hnm.out] at hR1
            obtain ⟨m, hm⟩ : ∃ m, j - 1 = m := ⟨_, rfl⟩
            rw [hm] at hR1
            have cm := hc2 m (by omega)
            have em : (j : Int) - 1 = (m : Int) := by omega
            have ewm : IntKind.i64.wrap (m : Int) = (m : Int) := by rw [IntKind.wrap_i64]; omega
            have jb : (j : Int) ≤ 40 := by omega
            have y2 : (0 : Int) ≤ (m : Int) := by omega
            have y3 : (m : Int) < ((L3.length : Nat) : Int) := by omega
            have y6 : (m : Int) < (n : Int) := by omega
            have y1 : decide ((0 : Int) < (j : Int)) = true := decide_eq_true (by omega)
            have y4 : 0 < j := by omega
            have y5 : (0 : Int) < (j : Int) := by omega
            generalize L3.getD m ⟨#[]⟩ = nm0 at *
            have HJ : Hid (j ≤ n) := hj
            clear hc2 hR hm hj0 hj
            go_wp2_with fail
            go_quiet (first | (go_at_call 14; exact Calls.quiet_of_same (PAt.out _)))
            go_wp2
            go_roundw
            case rel => exact ⟨j + 1, by omega, by go_num, hH3.out.drewN _⟩
            case measure => simp [intOf]; omega
        · have dlt : decide ((j : Int) < ((L3.length : Nat) : Int)) = false := decide_eq_false (by omega)
          obtain ⟨T0, hT0⟩ : ∃ T, TextsTh w.heap.size (.slice a3 L3.length c3) L3 = T := ⟨_, rfl⟩
          obtain ⟨B0, hB0⟩ : ∃ T, BookTh w.heap.size q 2 (some (.slice a2 L2.length c2, L2)) = T := ⟨_, rfl⟩
          rw [hT0, hB0] at hH
          have HB0 : Hid _ := hB0
          have HFR : Hid _ := freshU_ok HOK.out
          clear hT0 hB0 HN
          go_wp2_with fail
          go_loopw [18] (fun i wr3 => ∃ (k : Nat) (B : List Usr), k ≤ n2 ∧ i = .int .i64 k ∧ Hid (UsersOk B) ∧ Hid (Here w [T0, B0, RefBkTh r vL gF gU gK B, UsersTh K p B] wr3)) (fun i _ => n2 - (intOf i).toNat)
          case atStart => exact ⟨0, _, Nat.zero_le _, rfl, HFR, hH⟩
          case round =>
            clear hH HFR
            obtain ⟨k3, B, hk3, rfl, hok, hH⟩ := hrel
            by_cases hlt3 : k3 < n2
            · have dlt3 : decide ((k3 : Int) < (n2 : Int)) = true := decide_eq_true (by omega)
              have i03 : (0 : Int) ≤ (k3 : Int) := by omega
              have i13 : (k3 : Int) < (n2 : Int) := by omega
              obtain ⟨b3, o3, rfl, hc3⟩ := (HU2.out.1.later hH.out.bel) k3 hlt3
              obtain ⟨wk, wn, wm⟩ := HU2.out.2 k3 hlt3
              generalize X2 k3 = Y3 at *
              obtain ⟨kd, now, nm⟩ := Y3
              have hnow : I64U now := bounds_i64 wn
              have hnm : nm.size ≤ maxLen := wm
              have f0 := hc3 0 _ rfl
              have f1 := hc3 1 _ rfl
              have f2 := hc3 2 _ rfl
              have HNOW : Hid _ := hnow
              clear wk wn wm hc3 hnow
              generalize hoo3 : o3 + k3 * 3 = o4 at *
              have hV := hH.out.newRowU 57 [.int .i64 kd, .int .i64 now, .string nm]
              have HV : Hid _ := hV
              clear hV hH
              go_upto_block 6 with fail
              generalize hW3 : wr.alloc (.cells #[.int .i64 kd, .int .i64 now, .string nm] 57) = W3 at *
              generalize wr.heap.size = g at *
              obtain ⟨V0, hV0⟩ : ∃ V, RowThU g 57 [.int .i64 kd, .int .i64 now, .string nm] = V := ⟨_, rfl⟩
              have HC : Hid (∀ l w1, Here w (V0 :: l) w1 → w1.cell? ⟨g, 1, none⟩ = some (.int .i64 now) ∧ w1.cell? ⟨g, 2, none⟩ = some (.string nm)) := fun l w1 h => by
                rw [← hV0] at h
                exact ⟨(h.rowU 0 rfl).cellAt rfl, (h.rowU 0 rfl).cellAt rfl⟩
              have HP : Hid (Here w (PlayL K V0 T0 B0 r vL gF gU gK p B B) W3) := by
                show Here w (PlayL K V0 T0 B0 r vL gF gU gK p B B) W3
                have h := HV.out
                rw [← hV0]
                exact h
              clear hW3 hV0 HV f0 f1 f2
              go_cut [] from 157 to 240 (fun wx => ∃ B' : List Usr, Hid (UsersOk B') ∧ Hid (Here w (PlayL K V0 T0 B0 r vL gF gU gK p B' B') wx))
              case first =>
                obtain ⟨c1, c2⟩ := HC.out _ _ HP.out
                by_cases k1 : kd = 1
                · subst k1
                  have hP0 := HP.out.drew
                  have PFU : Hid (∀ w1, Here w (PlayL K V0 T0 B0 r vL gF gU gK p B B) w1 → Calls Tryz.prog 15 #[.pointer (some ⟨p, 0, none⟩), .string nm, .int .i64 now] w1 fun e w' => e = .returned (.bool (failT B nm)) ∧ Here w (PlayL K V0 T0 B0 r vL gF gU gK p B (failB B nm now)) w') := fun w1 h => play_failU K h hnm HNOW.out
                  have PFR : Hid (∀ w1, Here w (PlayL K V0 T0 B0 r vL gF gU gK p B (failB B nm now)) w1 → Calls Tryz.prog 16 #[.pointer (some ⟨r, 0, none⟩), .string nm, .int .i64 now] w1 fun e w' => e = .returned (.bool (failT B nm)) ∧ Here w (PlayL K V0 T0 B0 r vL gF gU gK p (failB B nm now) (failB B nm now)) w') := fun w1 h => play_failR K h hok.out HNOW.out
                  have HOKF : Hid _ := hok.out.fail nm now
                  generalize failT B nm = F at *
                  generalize failB B nm now = BF at *
                  go_wp2_with fail
                  go_region_held3 (fun w' => w'.cell? ⟨g, 1, none⟩ = some (.int .i64 now) ∧ w'.cell? ⟨g, 2, none⟩ = some (.string nm)) (first | exact HC.out _ _ hB | exact HC.out _ _ hA | exact HC.out _ _ hP0) (first | (go_at_call 15; (with_reducible refine (PFU.out _ hP0).mono ?_); rintro e wA ⟨rfl, hA⟩) | (go_at_call 16; (with_reducible refine (PFR.out _ hA).mono ?_); rintro e wB ⟨rfl, hB⟩))
                  all_goals
                    go_wp2_with fail
                    go_meet
                    case rel => exact ⟨BF, HOKF.out, hB⟩
                · have e1 : (kd == 1) = false := by simpa using k1
                  by_cases k2 : kd = 2
                  · subst k2
                    clear k1 e1
                    go_wp2_with fail
                    with_reducible refine (play_goodU K HP.out hnm).mono ?_
                    rintro e wA ⟨rfl, hA⟩
                    clear c1 c2
                    obtain ⟨c1, c2⟩ := HC.out _ _ hA
                    have HA : Hid _ := hA
                    clear hA
                    go_wp2_with fail
                    with_reducible refine (play_goodR K HA.out hok.out).mono ?_
                    rintro e wB ⟨rfl, hB⟩
                    have HB : Hid _ := hB
                    clear hB
                    go_wp2_with fail
                    go_meet
                    case rel => exact ⟨goodB B nm, hok.out.good nm, HB⟩
                  · have e2 : (kd == 2) = false := by simpa using k2
                    clear k1 k2
                    go_wp2_with fail
                    go_meet
                    case rel => exact ⟨B, hok, HP⟩
              case rest =>
                clear hok HP B
                obtain ⟨B, hok, HP⟩ := hcut
                obtain ⟨c1, c2⟩ := HC.out _ _ HP.out
                obtain ⟨av, hav⟩ : ∃ av, atV B nm = av := ⟨_, rfl⟩
                have PAV : Hid (Calls Tryz.prog 14 #[.pointer (some ⟨r, 0, none⟩), .string nm] wc fun e w' => e = .returned (.int .i64 av) ∧ wc = w') := by
                  have := play_at K HP.out hok.out (nm := nm)
                  rw [hav] at this
                  exact this
                have HAV : Hid _ := hav
                clear hav
                go_wp2_with fail
                with_reducible refine Calls.mono (PAV.out) ?_
                rintro e w' ⟨rfl, rfl⟩
                go_upto_if 199 with fail
                clear PAV
                go_cut [20] from 157 to 240 (fun v20 wx => v20 = .int .i64 ((failsN B nm : Nat) : Int) ∧ Hid (Here w (PlayL K V0 T0 B0 r vL gF gU gK p B B) wx))
                case first =>
                  cases hh : hasU B nm with
                  | true =>
                    have hR := HP.out.refBk 3 rfl
                    obtain ⟨hf, hix⟩ := hR.failsAt hh
                    obtain ⟨_, hl1⟩ := hR.listCell
                    have hav := HAV.out
                    rw [atV_yes hh] at hav
                    have FN : Hid _ := hf
                    clear hR hh HAV
                    generalize idxU B nm = ix at *
                    subst hav
                    have x1 : (0 : Int) ≤ (ix : Int) := by omega
                    have x2 : (ix : Int) < (B.length : Int) := by omega
                    have x3 : decide ((0 : Int) ≤ (ix : Int)) = true := decide_eq_true x1
                    generalize hN : ((failsN B nm : Nat) : Int) = fN at *
                    clear FN
                    go_wp2_with fail
                    go_meet
                    case rel => exact ⟨rfl, HP⟩
                  | false =>
                    have hav := HAV.out
                    rw [atV_no hh] at hav
                    subst hav
                    have hf0 : Hid (failsN B nm = 0) := failsN_no hh
                    clear hh HAV
                    go_wp2_with fail
                    go_meet
                    case rel => exact ⟨by rw [hf0.out]; rfl, HP⟩
                case rest =>
                  clear HP HAV
                  obtain ⟨rfl, HP⟩ := hcut
                  have hP1 := HP.out.drew
                  have PL : Hid (∀ (t : Int) w1, I64U t → Here w (PlayL K V0 T0 B0 r vL gF gU gK p B B) w1 → Calls Tryz.prog 19 #[.pointer (some ⟨p, 0, none⟩), .string nm, .int .i64 t] w1 fun e w' => e = .returned (.bool (lockedT B nm t)) ∧ Here w (PlayL K V0 T0 B0 r vL gF gU gK p B B) w') := fun t w1 ht h => play_lockedU K h hnm ht
                  have PR : Hid (∀ (t : Int) w1, Here w (PlayL K V0 T0 B0 r vL gF gU gK p B B) w1 → Calls Tryz.prog 20 #[.pointer (some ⟨r, 0, none⟩), .string nm, .int .i64 t] w1 fun e w' => e = .returned (.bool (lockedT B nm t)) ∧ w1 = w') := fun t w1 h => play_lockedR K h hok.out
                  have PF : Hid (∀ w1, Here w (PlayL K V0 T0 B0 r vL gF gU gK p B B) w1 → Calls Tryz.prog 21 #[.pointer (some ⟨p, 0, none⟩), .string nm] w1 fun e w' => e = .returned (.int .i64 (failsN B nm : Int)) ∧ Here w (PlayL K V0 T0 B0 r vL gF gU gK p B B) w') := fun w1 h => play_failsU K h hnm
                  generalize lockedT B nm ask = L1 at *
                  generalize lockedT B nm now = L2 at *
                  generalize ((failsN B nm : Nat) : Int) = fN at *
                  clear c1 c2
                  go_wp2_with fail
                  go_region_held3 (fun w' => w'.cell? ⟨g, 1, none⟩ = some (.int .i64 now) ∧ w'.cell? ⟨g, 2, none⟩ = some (.string nm)) (first | exact HC.out _ _ hC | exact HC.out _ _ hB | exact HC.out _ _ hA | exact HC.out _ _ hP1) (first | (go_at_call 19; first | (with_reducible refine (PL.out ask _ hask hP1).mono ?_; rintro e wA ⟨rfl, hA⟩) | (with_reducible refine (PL.out now _ HNOW.out hA).mono ?_; rintro e wB ⟨rfl, hB⟩)) | (go_at_call 20; first | (with_reducible refine (PR.out ask _ hP1).mono ?_; rintro e w' ⟨rfl, rfl⟩) | (with_reducible refine (PR.out ask _ hA).mono ?_; rintro e w' ⟨rfl, rfl⟩) | (with_reducible refine (PR.out now _ hA).mono ?_; rintro e w' ⟨rfl, rfl⟩) | (with_reducible refine (PR.out now _ hB).mono ?_; rintro e w' ⟨rfl, rfl⟩)) | (go_at_call 21; with_reducible refine (PF.out _ hB).mono ?_; rintro e wC ⟨rfl, hC⟩))
                  all_goals
                    have HN : Hid (Here w [T0, B0, RefBkTh r vL gF gU gK B, UsersTh K p B] _) := hC.tailU
                    clear hA hB hC hP1
                    go_wp2
                    go_roundw
                    case rel => exact ⟨k3 + 1, B, by omega, by go_num, hok, HN⟩
                    case measure => simp [intOf]; omega
            · have dlt3 : decide ((k3 : Int) < (n2 : Int)) = false := decide_eq_false (by omega)
              have z1 : (⟨#[120]⟩ : ByteArray).size ≤ maxLen := by decide
              have PG : Hid _ := fun w1 => K.goodNil w1 ⟨#[120]⟩ z1
              have PS : Hid _ := fun w1 => K.secretNil w1 ⟨#[120]⟩ z1
              have PF : Hid _ := fun w1 => K.failNil w1 ⟨#[120]⟩ 1 z1 (by decide)
              have PL : Hid _ := fun w1 => K.lockedNil w1 ⟨#[120]⟩ 1 z1 (by decide)
              have PC : Hid _ := fun w1 => K.failsNil w1 ⟨#[120]⟩ z1
              have PM : Hid _ := fun w1 => K.namesNil w1
              have PAp : Hid (∀ w1, Here w [T0, B0, RefBkTh r vL gF gU gK B, UsersTh K p B] w1 → Calls Tryz.prog 22 #[.pointer (some ⟨q, 0, none⟩)] w1 fun e w' => e = .returned (.bool true) ∧ Below w.heap.size w w') := fun w1 h => by
                have hB0 := HB0.out
                subst hB0
                exact h.bookApart 1 rfl (by decide)
              clear z1
              go_wp2_with fail
              with_reducible refine (PG.out _).mono ?_
              rintro e v1 ⟨rfl, b1⟩
              have h1 : Hid _ := hH.out.below b1
              clear hH b1
              go_wp2_with fail
              with_reducible refine (PS.out _).mono ?_
              rintro e v2 ⟨⟨sx, rfl⟩, b2⟩
              have h2 : Hid _ := h1.out.below b2
              clear h1 b2
              go_wp2_with fail
              with_reducible refine (PF.out _).mono ?_
              rintro e v3 ⟨rfl, b3⟩
              have h3 : Hid _ := h2.out.below b3
              clear h2 b3
              go_wp2_with fail
              with_reducible refine (PL.out _).mono ?_
              rintro e v4 ⟨rfl, b4⟩
              have h4 : Hid _ := h3.out.below b4
              clear h3 b4
              go_wp2_with fail
              with_reducible refine (PC.out _).mono ?_
              rintro e v5 ⟨rfl, b5⟩
              have h5 : Hid _ := h4.out.below b5
              clear h4 b5
              go_wp2_with fail
              with_reducible refine (PM.out _).mono ?_
              rintro e v6 ⟨⟨ax, cx, rfl⟩, b6⟩
              have h6 : Hid _ := h5.out.below b6
              clear h5 b6
              go_wp2_with fail
              with_reducible refine (PAp.out _ h6.out).mono ?_
              rintro e v7 ⟨rfl, b7⟩
              go_wp2
              go_ret
              exact ⟨rfl, b7⟩

end Go.Proofs.YtjemklgfenciaaaGreat

/-
  The law on every play, at users that may be, tidied.
-/
namespace Go.Proofs.YtjemklgfenciaaaGreat
open Go.RowKit
set_option linter.unusedVariables false
set_option maxRecDepth 100000
set_option linter.unusedSimpArgs false

set_option maxHeartbeats 4000000 in
theorem usersPlay_yesTidy (K : UsersKeeps) (oaR : Option Addr) (n cR : Nat) (XR : Nat → NS) (o2 : Option Addr) (n2 c2 : Nat) (X2 : Nat → Uop) (ask : Int) (wR : World) (hx : PairsAt wR oaR n XR) (hz : ∀ i, i < n → (XR i).1.size ≤ maxLen ∧ (XR i).2.size ≤ maxLen) (hn : n ≤ 40) (hn2 : n2 ≤ 100) (hs2 : UopsAt wR o2 n2 X2) (hw2 : ∀ i, i < n2 → (X2 i).Wide) (hask : I64U ask) (hok : usersOk (tidyU XR n) = true) :
    Calls Tryz.prog 3 #[.slice oaR n cR, .bool false, .slice o2 n2 c2, .int .i64 ask] wR fun e w' => e = .returned (.bool true) ∧ Below wR.heap.size wR w' := by
  have PA : Hid _ := alive14_of K
  have HXR : Hid (PairsAt wR oaR n XR) := hx
  have HZR : Hid _ := hz
  have PT : Hid (∀ w1, Below wR.heap.size wR w1 → Calls Tryz.prog 5 #[.slice oaR n cR] w1 fun e w' => ∃ a d, e = .returned (.slice a n d) ∧ PairsAt w' a n (fun i => (tidyU XR n).getD i nsNone) ∧ (a = none → d = 0 ∧ n = 0) ∧ Below w1.heap.size w1 w') := fun w1 hb => tidy_pairs w1 oaR n cR XR (HXR.out.later hb) (by omega) HZR.out
  have HY : Hid (∀ i, i < n → ((tidyU XR n).getD i nsNone).1.size ≤ maxLen ∧ ((tidyU XR n).getD i nsNone).2.size ≤ maxLen) := tidyU_wide hz
  have HOKY : Hid (usersOk (listU (fun i => (tidyU XR n).getD i nsNone) n) = true) := by
    have e := listU_getD (tidyU XR n)
    rw [tidyU_len] at e
    show usersOk _ = true
    rw [e]; exact hok
  have HU2R : Hid (UopsAt wR o2 n2 X2 ∧ ∀ i, i < n2 → (X2 i).Wide) := ⟨hs2, hw2⟩
  have d1 : decide ((40 : Int) < (n : Int)) = false := decide_eq_false (by omega)
  have d2 : decide ((100 : Int) < (n2 : Int)) = false := decide_eq_false (by omega)
  clear hok hx hz hs2 hw2
  go_enter Tryz.func3, Tryz.ntmps3
  go_wp2_with fail
  with_reducible refine (PA.out _).mono ?_
  rintro e w1 ⟨rfl, b⟩
  go_wp2_with fail
  with_reducible refine (PT.out _ b).mono ?_
  rintro e w ⟨oa, c, rfl, hx0, hno0, b0⟩
  have bb0 : Below wR.heap.size wR w := bel_chain8 b b0
  obtain ⟨X, hX⟩ : ∃ Y : Nat → NS, (fun i => (tidyU XR n).getD i nsNone) = Y := ⟨_, rfl⟩
  rw [hX] at hx0 HOKY
  have HX : Hid (PairsAt w oa n X) := hx0
  have HZ : Hid (∀ i, i < n → (X i).1.size ≤ maxLen ∧ (X i).2.size ≤ maxLen) := by rw [← hX]; exact HY.out
  have HOK : Hid (usersOk (listU X n) = true) := HOKY
  have HNO : Hid (oa = none → c = 0 ∧ n = 0) := hno0
  have HU2 : Hid (UopsAt w o2 n2 X2 ∧ ∀ i, i < n2 → (X2 i).Wide) := ⟨HU2R.out.1.later bb0, HU2R.out.2⟩
  have BB : Hid (∀ w', Below w.heap.size w w' → Below wR.heap.size wR w') := fun w' h => bel_chain8 bb0 h
  clear hX hx0 hno0 b b0 bb0 PA PT HXR HZR HY HOKY HU2R
  have HL : Hid ((freshU (listU X n)).length = n) := freshU_len14 X n
  have PN : Hid (∀ w1, Below w.heap.size w w1 → Calls Tryz.prog 6 #[.slice oa n c] w1 fun e w' => ∃ p, e = .returned (.tuple #[.pointer (some ⟨p, 0, none⟩), .int .i64 0]) ∧ Here w [UsersTh K p (freshU (listU X n))] w') := fun w1 hb =>
    Here.newUsers K (Here.start' hb) oa n c X (HX.out.later hb) (by unfold maxLen; omega) HZ.out HOK.out
  have PU : Hid (∀ w1, Below w.heap.size w w1 → Calls Tryz.prog 9 #[.slice oa n c] w1 fun e w' => e = .returned (.bool true) ∧ Below w1.heap.size w1 w') := fun w1 hb => by
    refine (refU_users w1 oa n c X (HX.out.later hb) (by omega) HZ.out).mono ?_
    rintro e w' ⟨rfl, hbel⟩
    rw [HOK.out]
    exact ⟨rfl, hbel⟩
  have PB : Hid (∀ w1 l, Here w l w1 → Calls Tryz.prog 10 #[.slice oa n c] w1 fun e w' => ∃ r vL gF gU gK, e = .returned (.pointer (some ⟨r, 0, none⟩)) ∧ Here w (RefBkTh r vL gF gU gK (freshU (listU X n)) :: l) w') := fun w1 l h => h.refBooks oa n c X (HX.out.later h.bel) HNO.out (by omega)
  go_wp2_with fail
  with_reducible refine (PN.out _ (Below.refl _ _)).mono ?_
  rintro e w2 ⟨p, rfl, hH⟩
  clear PN
  have HH : Hid _ := hH
  clear hH
  go_wp2_with fail
  go_loopw [11] (fun i wr => ∃ k : Nat, k ≤ n ∧ i = .int .i64 k ∧ Hid (Here w [UsersTh K p (freshU (listU X n))] wr)) (fun i _ => n - (intOf i).toNat)
  case atStart => exact ⟨0, Nat.zero_le _, rfl, HH⟩
  case round =>
    clear HH
    obtain ⟨k, hk, rfl, hH⟩ := hrel
    by_cases hlt : k < n
    · have dlt : decide ((k : Int) < (n : Int)) = true := decide_eq_true (by omega)
      have i0 : (0 : Int) ≤ (k : Int) := by omega
      have i1 : (k : Int) < (n : Int) := by omega
      obtain ⟨bb, oo, rfl, c1, c2⟩ := (HX.out.later hH.out.bel) k hlt
      obtain ⟨z1, z2⟩ := HZ.out k hlt
      have PR : Hid _ := fun w1 => K.right w1 (X k).1 (X k).2 z1 z2
      have PF : Hid _ := fun w1 => refU_user (X k).1 (X k).2 w1 z1 z2
      clear z1 z2
      generalize userOkU (X k).1 (X k).2 = q at *
      generalize (X k).1 = A at *
      generalize (X k).2 = B at *
      generalize hoo : oo + k * 2 = o1 at *
      have bw : Below wr.heap.size wr wr.drew := (Below.refl _ _).drew
      go_wp2_with fail
      go_region_held3 (fun w' => w'.cell? ⟨bb, o1, none⟩ = some (.string A) ∧ w'.cell? ⟨bb, o1 + 1, none⟩ = some (.string B)) (exact ⟨cell_belowB bw c1, cell_belowB bw c2⟩) (first | (go_at_call 7; (with_reducible refine (PR.out _).mono ?_); rintro e w5 ⟨rfl, b5⟩; replace bw := bel_chain8 bw b5; clear b5) | (go_at_call 8; (with_reducible refine (PF.out _).mono ?_); rintro e w5 ⟨rfl, b5⟩; replace bw := bel_chain8 bw b5; clear b5))
      all_goals
        have hb1 : Hid (Here w [UsersTh K p (freshU (listU X n))] _) := hH.out.below bw
        clear bw
        go_wp2
        go_roundw
        case rel => exact ⟨k + 1, by omega, by go_num, hb1⟩
        case measure => simp [intOf]; omega
    · have dlt : decide ((k : Int) < (n : Int)) = false := decide_eq_false (by omega)
      go_wp2_with fail
      with_reducible refine (PU.out _ hH.out.bel).mono ?_
      rintro e w4 ⟨rfl, b4⟩
      have h4 := hH.out.below b4
      clear b4 hH
      go_wp2_with fail
      with_reducible refine (PB.out _ _ h4).mono ?_
      rintro e w5 ⟨r, vL, gF, gU, gK, rfl, h5⟩
      clear h4
      have h6 := h5.newBookU
      unfold rowT at h6
      clear h5
      generalize hq : w5.heap.size = q at *
      go_wp2_with fail
      with_reducible refine (h6.userNames 2 rfl).mono ?_
      rintro e w6 ⟨a1, c1, L1, rfl, hN1, h7⟩
      clear h6
      have hL1 : L1.length ≤ 10000 := by rw [hN1.len, HL.out]; omega
      go_wp2_with fail
      with_reducible refine (h7.bookTexts 0 rfl (by decide) hL1).mono ?_
      rintro e w7 ⟨rfl, h8⟩
      clear h7
      go_wp2_with fail
      with_reducible refine (Here.userNames h8 2 rfl).mono ?_
      rintro e w8 ⟨a2, c2, L2, rfl, hN2, h9⟩
      clear h8
      have hL2 : L2.length ≤ 10000 := by rw [hN2.len, HL.out]; omega
      go_wp2_with fail
      with_reducible refine (h9.bookTexts 0 rfl (by decide) hL2).mono ?_
      rintro e w9 ⟨rfl, h10⟩
      clear h9
      go_wp2_with fail
      with_reducible refine (Here.userNames h10 2 rfl).mono ?_
      rintro e w10 ⟨a3, c3, L3, rfl, hN3, h11⟩
      clear h10
      have hL3 : (L3.length : Int) = (n : Int) := by rw [hN3.len, HL.out]
      have dne : (((L3.length : Nat) : Int) != (n : Int)) = false := by rw [hL3]; simp
      go_wp2_with fail
      clear hN1 hN2 hL1 hL2
      have HN : Hid _ := hN3
      have HH : Hid _ := h11
      clear h11 hN3
      go_loopw [15] (fun i wr2 => ∃ k : Nat, k ≤ n ∧ i = .int .i64 k ∧ Hid (Here w [TextsTh w.heap.size (.slice a3 L3.length c3) L3, BookTh w.heap.size q 2 (some (.slice a2 L2.length c2, L2)), RefBkTh r vL gF gU gK (freshU (listU X n)), UsersTh K p (freshU (listU X n))] wr2)) (fun i _ => n - (intOf i).toNat)
      case atStart => exact ⟨0, Nat.zero_le _, rfl, HH⟩
      case round =>
        clear HH
        obtain ⟨j, hj, rfl, hH⟩ := hrel
        by_cases hlt : j < n
        · have dlt : decide ((j : Int) < ((L3.length : Nat) : Int)) = true := decide_eq_true (by omega)
          have ho := hH.out.texts 0 rfl
          have hj3 : j < L3.length := by omega
          obtain ⟨g3, rfl, hc⟩ := own_textCells ho (by omega)
          have cj := hc j hj3
          have hhas := HN.out.has hj3
          obtain ⟨nm, hnm⟩ : ∃ nm, L3.getD j ⟨#[]⟩ = nm := ⟨_, rfl⟩
          rw [hnm] at cj hhas
          have Hnm : Hid (L3.getD j ⟨#[]⟩ = nm) := hnm
          clear hnm
          have hsz : nm.size ≤ maxLen := by
            have h1 := ((freshU_ok HOK.out).each _ (List.mem_of_getElem? (atU_get hhas))).1
            rw [atU_name hhas] at h1
            unfold userOkU nameOkU at h1
            simp at h1
            unfold maxLen
            omega
          have PS := hH.out.userSecret 3 nm rfl hsz hhas
          have hHas : Hid _ := hhas
          have hcl : Hid _ := hc
          have j0 : (0 : Int) ≤ (j : Int) := by omega
          have j1 : (j : Int) < ((L3.length : Nat) : Int) := by omega
          clear ho hc hhas hsz
          go_wp2_with fail
          with_reducible refine PS.mono ?_
          rintro e w12 ⟨rfl, hH2⟩
          clear PS cj hH
          obtain ⟨g3', eg3, hc2⟩ := own_textCells (hH2.texts 0 rfl) (by omega)
          obtain rfl : g3 = g3' := by injection eg3 with eg3; injection eg3
          clear eg3 hcl
          have hB := hH2.refBk 2 rfl
          have hix0 := atV_yes hHas.out
          have PAt : Hid (∀ m, Calls Tryz.prog 14 #[.pointer (some ⟨r, 0, none⟩), .string nm] (w12.drewN m) fun e w' => e = .returned (.int .i64 (idxU (freshU (listU X n)) nm : Int)) ∧ w' = w12.drewN m) := fun m => by
            refine ((hH2.drewN m).refAt 2 nm rfl (by rw [HL.out]; omega)).mono ?_
            rintro e w' ⟨rfl, rfl⟩
            rw [atV_yes hHas.out]
            exact ⟨rfl, rfl⟩
          obtain ⟨lb, lo, lcap, rfl, hsec, hix⟩ := hB.secretAt hHas.out
          obtain ⟨hl0, hl1⟩ := hB.listCell
          have cj := hc2 j hj3
          rw [Hnm.out] at cj
          rw [HL.out] at hl0 hix
          have hR := HN.out.rise (i := j)
          have hH3 : Hid _ := hH2
          clear hB hix0 hH2 hl1
          generalize idxU (freshU (listU X n)) nm = ix at *
          generalize (atU (freshU (listU X n)) nm).secret = sec at *
          have es := str_beq_self sec
          have x0 : decide ((ix : Int) < 0) = false := decide_eq_false (by omega)
          have x1 : (0 : Int) ≤ (ix : Int) := by omega
          have x2 : (ix : Int) < (n : Int) := by omega
          by_cases hj0 : j = 0
          · subst hj0
            clear hc2 hR
            go_wp2_with fail
            go_quiet (first | (go_at_call 14; exact Calls.quiet_of_same (PAt.out _)))
            go_wp2
            go_roundw
            case rel => exact ⟨1, by omega, by go_num, hH3.out.drewN _⟩
            case measure => simp [intOf]; omega
          · have hR1 := hR (by omega) hj3
            rw [Hnm.out] at hR1
            obtain ⟨m, hm⟩ : ∃ m, j - 1 = m := ⟨_, rfl⟩
            rw [hm] at hR1
            have cm := hc2 m (by omega)
            have em : (j : Int) - 1 = (m : Int) := by omega
            have ewm : IntKind.i64.wrap (m : Int) = (m : Int) := by rw [IntKind.wrap_i64]; omega
            have jb : (j : Int) ≤ 40 := by omega
            have y2 : (0 : Int) ≤ (m : Int) := by omega
            have y3 : (m : Int) < ((L3.length : Nat) : Int) := by omega
            have y6 : (m : Int) < (n : Int) := by omega
            have y1 : decide ((0 : Int) < (j : Int)) = true := decide_eq_true (by omega)
            have y4 : 0 < j := by omega
            have y5 : (0 : Int) < (j : Int) := by omega
            generalize L3.getD m ⟨#[]⟩ = nm0 at *
            have HJ : Hid (j ≤ n) := hj
            clear hc2 hR hm hj0 hj
            go_wp2_with fail
            go_quiet (first | (go_at_call 14; exact Calls.quiet_of_same (PAt.out _)))
            go_wp2
            go_roundw
            case rel => exact ⟨j + 1, by omega, by go_num, hH3.out.drewN _⟩
            case measure => simp [intOf]; omega
        · have dlt : decide ((j : Int) < ((L3.length : Nat) : Int)) = false := decide_eq_false (by omega)
          obtain ⟨T0, hT0⟩ : ∃ T, TextsTh w.heap.size (.slice a3 L3.length c3) L3 = T := ⟨_, rfl⟩
          obtain ⟨B0, hB0⟩ : ∃ T, BookTh w.heap.size q 2 (some (.slice a2 L2.length c2, L2)) = T := ⟨_, rfl⟩
          rw [hT0, hB0] at hH
          have HB0 : Hid _ := hB0
          have HFR : Hid _ := freshU_ok HOK.out
          clear hT0 hB0 HN
          go_wp2_with fail
          go_loopw [18] (fun i wr3 => ∃ (k : Nat) (B : List Usr), k ≤ n2 ∧ i = .int .i64 k ∧ Hid (UsersOk B) ∧ Hid (Here w [T0, B0, RefBkTh r vL gF gU gK B, UsersTh K p B] wr3)) (fun i _ => n2 - (intOf i).toNat)
          case atStart => exact ⟨0, _, Nat.zero_le _, rfl, HFR, hH⟩
          case round =>
            clear hH HFR
            obtain ⟨k3, B, hk3, rfl, hok, hH⟩ := hrel
            by_cases hlt3 : k3 < n2
            · have dlt3 : decide ((k3 : Int) < (n2 : Int)) = true := decide_eq_true (by omega)
              have i03 : (0 : Int) ≤ (k3 : Int) := by omega
              have i13 : (k3 : Int) < (n2 : Int) := by omega
              obtain ⟨b3, o3, rfl, hc3⟩ := (HU2.out.1.later hH.out.bel) k3 hlt3
              obtain ⟨wk, wn, wm⟩ := HU2.out.2 k3 hlt3
              generalize X2 k3 = Y3 at *
              obtain ⟨kd, now, nm⟩ := Y3
              have hnow : I64U now := bounds_i64 wn
              have hnm : nm.size ≤ maxLen := wm
              have f0 := hc3 0 _ rfl
              have f1 := hc3 1 _ rfl
              have f2 := hc3 2 _ rfl
              have HNOW : Hid _ := hnow
              clear wk wn wm hc3 hnow
              generalize hoo3 : o3 + k3 * 3 = o4 at *
              have hV := hH.out.newRowU 57 [.int .i64 kd, .int .i64 now, .string nm]
              have HV : Hid _ := hV
              clear hV hH
              go_upto_block 6 with fail
              generalize hW3 : wr.alloc (.cells #[.int .i64 kd, .int .i64 now, .string nm] 57) = W3 at *
              generalize wr.heap.size = g at *
              obtain ⟨V0, hV0⟩ : ∃ V, RowThU g 57 [.int .i64 kd, .int .i64 now, .string nm] = V := ⟨_, rfl⟩
              have HC : Hid (∀ l w1, Here w (V0 :: l) w1 → w1.cell? ⟨g, 1, none⟩ = some (.int .i64 now) ∧ w1.cell? ⟨g, 2, none⟩ = some (.string nm)) := fun l w1 h => by
                rw [← hV0] at h
                exact ⟨(h.rowU 0 rfl).cellAt rfl, (h.rowU 0 rfl).cellAt rfl⟩
              have HP : Hid (Here w (PlayL K V0 T0 B0 r vL gF gU gK p B B) W3) := by
                show Here w (PlayL K V0 T0 B0 r vL gF gU gK p B B) W3
                have h := HV.out
                rw [← hV0]
                exact h
              clear hW3 hV0 HV f0 f1 f2
              go_cut [] from 157 to 240 (fun wx => ∃ B' : List Usr, Hid (UsersOk B') ∧ Hid (Here w (PlayL K V0 T0 B0 r vL gF gU gK p B' B') wx))
              case first =>
                obtain ⟨c1, c2⟩ := HC.out _ _ HP.out
                by_cases k1 : kd = 1
                · subst k1
                  have hP0 := HP.out.drew
                  have PFU : Hid (∀ w1, Here w (PlayL K V0 T0 B0 r vL gF gU gK p B B) w1 → Calls Tryz.prog 15 #[.pointer (some ⟨p, 0, none⟩), .string nm, .int .i64 now] w1 fun e w' => e = .returned (.bool (failT B nm)) ∧ Here w (PlayL K V0 T0 B0 r vL gF gU gK p B (failB B nm now)) w') := fun w1 h => play_failU K h hnm HNOW.out
                  have PFR : Hid (∀ w1, Here w (PlayL K V0 T0 B0 r vL gF gU gK p B (failB B nm now)) w1 → Calls Tryz.prog 16 #[.pointer (some ⟨r, 0, none⟩), .string nm, .int .i64 now] w1 fun e w' => e = .returned (.bool (failT B nm)) ∧ Here w (PlayL K V0 T0 B0 r vL gF gU gK p (failB B nm now) (failB B nm now)) w') := fun w1 h => play_failR K h hok.out HNOW.out
                  have HOKF : Hid _ := hok.out.fail nm now
                  generalize failT B nm = F at *
                  generalize failB B nm now = BF at *
                  go_wp2_with fail
                  go_region_held3 (fun w' => w'.cell? ⟨g, 1, none⟩ = some (.int .i64 now) ∧ w'.cell? ⟨g, 2, none⟩ = some (.string nm)) (first | exact HC.out _ _ hB | exact HC.out _ _ hA | exact HC.out _ _ hP0) (first | (go_at_call 15; (with_reducible refine (PFU.out _ hP0).mono ?_); rintro e wA ⟨rfl, hA⟩) | (go_at_call 16; (with_reducible refine (PFR.out _ hA).mono ?_); rintro e wB ⟨rfl, hB⟩))
                  all_goals
                    go_wp2_with fail
                    go_meet
                    case rel => exact ⟨BF, HOKF.out, hB⟩
                · have e1 : (kd == 1) = false := by simpa using k1
                  by_cases k2 : kd = 2
                  · subst k2
                    clear k1 e1
                    go_wp2_with fail
                    with_reducible refine (play_goodU K HP.out hnm).mono ?_
                    rintro e wA ⟨rfl, hA⟩
                    clear c1 c2
                    obtain ⟨c1, c2⟩ := HC.out _ _ hA
                    have HA : Hid _ := hA
                    clear hA
                    go_wp2_with fail
                    with_reducible refine (play_goodR K HA.out hok.out).mono ?_
                    rintro e wB ⟨rfl, hB⟩
                    have HB : Hid _ := hB
                    clear hB
                    go_wp2_with fail
                    go_meet
                    case rel => exact ⟨goodB B nm, hok.out.good nm, HB⟩
                  · have e2 : (kd == 2) = false := by simpa using k2
                    clear k1 k2
                    go_wp2_with fail
                    go_meet
                    case rel => exact ⟨B, hok, HP⟩
              case rest =>
                clear hok HP B
                obtain ⟨B, hok, HP⟩ := hcut
                obtain ⟨c1, c2⟩ := HC.out _ _ HP.out
                obtain ⟨av, hav⟩ : ∃ av, atV B nm = av := ⟨_, rfl⟩
                have PAV : Hid (Calls Tryz.prog 14 #[.pointer (some ⟨r, 0, none⟩), .string nm] wc fun e w' => e = .returned (.int .i64 av) ∧ wc = w') := by
                  have := play_at K HP.out hok.out (nm := nm)
                  rw [hav] at this
                  exact this
                have HAV : Hid _ := hav
                clear hav
                go_wp2_with fail
                with_reducible refine Calls.mono (PAV.out) ?_
                rintro e w' ⟨rfl, rfl⟩
                go_upto_if 199 with fail
                clear PAV
                go_cut [20] from 157 to 240 (fun v20 wx => v20 = .int .i64 ((failsN B nm : Nat) : Int) ∧ Hid (Here w (PlayL K V0 T0 B0 r vL gF gU gK p B B) wx))
                case first =>
                  cases hh : hasU B nm with
                  | true =>
                    have hR := HP.out.refBk 3 rfl
                    obtain ⟨hf, hix⟩ := hR.failsAt hh
                    obtain ⟨_, hl1⟩ := hR.listCell
                    have hav := HAV.out
                    rw [atV_yes hh] at hav
                    have FN : Hid _ := hf
                    clear hR hh HAV
                    generalize idxU B nm = ix at *
                    subst hav
                    have x1 : (0 : Int) ≤ (ix : Int) := by omega
                    have x2 : (ix : Int) < (B.length : Int) := by omega
                    have x3 : decide ((0 : Int) ≤ (ix : Int)) = true := decide_eq_true x1
                    generalize hN : ((failsN B nm : Nat) : Int) = fN at *
                    clear FN
                    go_wp2_with fail
                    go_meet
                    case rel => exact ⟨rfl, HP⟩
                  | false =>
                    have hav := HAV.out
                    rw [atV_no hh] at hav
                    subst hav
                    have hf0 : Hid (failsN B nm = 0) := failsN_no hh
                    clear hh HAV
                    go_wp2_with fail
                    go_meet
                    case rel => exact ⟨by rw [hf0.out]; rfl, HP⟩
                case rest =>
                  clear HP HAV
                  obtain ⟨rfl, HP⟩ := hcut
                  have hP1 := HP.out.drew
                  have PL : Hid (∀ (t : Int) w1, I64U t → Here w (PlayL K V0 T0 B0 r vL gF gU gK p B B) w1 → Calls Tryz.prog 19 #[.pointer (some ⟨p, 0, none⟩), .string nm, .int .i64 t] w1 fun e w' => e = .returned (.bool (lockedT B nm t)) ∧ Here w (PlayL K V0 T0 B0 r vL gF gU gK p B B) w') := fun t w1 ht h => play_lockedU K h hnm ht
                  have PR : Hid (∀ (t : Int) w1, Here w (PlayL K V0 T0 B0 r vL gF gU gK p B B) w1 → Calls Tryz.prog 20 #[.pointer (some ⟨r, 0, none⟩), .string nm, .int .i64 t] w1 fun e w' => e = .returned (.bool (lockedT B nm t)) ∧ w1 = w') := fun t w1 h => play_lockedR K h hok.out
                  have PF : Hid (∀ w1, Here w (PlayL K V0 T0 B0 r vL gF gU gK p B B) w1 → Calls Tryz.prog 21 #[.pointer (some ⟨p, 0, none⟩), .string nm] w1 fun e w' => e = .returned (.int .i64 (failsN B nm : Int)) ∧ Here w (PlayL K V0 T0 B0 r vL gF gU gK p B B) w') := fun w1 h => play_failsU K h hnm
                  generalize lockedT B nm ask = L1 at *
                  generalize lockedT B nm now = L2 at *
                  generalize ((failsN B nm : Nat) : Int) = fN at *
                  clear c1 c2
                  go_wp2_with fail
                  go_region_held3 (fun w' => w'.cell? ⟨g, 1, none⟩ = some (.int .i64 now) ∧ w'.cell? ⟨g, 2, none⟩ = some (.string nm)) (first | exact HC.out _ _ hC | exact HC.out _ _ hB | exact HC.out _ _ hA | exact HC.out _ _ hP1) (first | (go_at_call 19; first | (with_reducible refine (PL.out ask _ hask hP1).mono ?_; rintro e wA ⟨rfl, hA⟩) | (with_reducible refine (PL.out now _ HNOW.out hA).mono ?_; rintro e wB ⟨rfl, hB⟩)) | (go_at_call 20; first | (with_reducible refine (PR.out ask _ hP1).mono ?_; rintro e w' ⟨rfl, rfl⟩) | (with_reducible refine (PR.out ask _ hA).mono ?_; rintro e w' ⟨rfl, rfl⟩) | (with_reducible refine (PR.out now _ hA).mono ?_; rintro e w' ⟨rfl, rfl⟩) | (with_reducible refine (PR.out now _ hB).mono ?_; rintro e w' ⟨rfl, rfl⟩)) | (go_at_call 21; with_reducible refine (PF.out _ hB).mono ?_; rintro e wC ⟨rfl, hC⟩))
                  all_goals
                    have HN : Hid (Here w [T0, B0, RefBkTh r vL gF gU gK B, UsersTh K p B] _) := hC.tailU
                    clear hA hB hC hP1
                    go_wp2
                    go_roundw
                    case rel => exact ⟨k3 + 1, B, by omega, by go_num, hok, HN⟩
                    case measure => simp [intOf]; omega
            · have dlt3 : decide ((k3 : Int) < (n2 : Int)) = false := decide_eq_false (by omega)
              have z1 : (⟨#[120]⟩ : ByteArray).size ≤ maxLen := by decide
              have PG : Hid _ := fun w1 => K.goodNil w1 ⟨#[120]⟩ z1
              have PS : Hid _ := fun w1 => K.secretNil w1 ⟨#[120]⟩ z1
              have PF : Hid _ := fun w1 => K.failNil w1 ⟨#[120]⟩ 1 z1 (by decide)
              have PL : Hid _ := fun w1 => K.lockedNil w1 ⟨#[120]⟩ 1 z1 (by decide)
              have PC : Hid _ := fun w1 => K.failsNil w1 ⟨#[120]⟩ z1
              have PM : Hid _ := fun w1 => K.namesNil w1
              have PAp : Hid (∀ w1, Here w [T0, B0, RefBkTh r vL gF gU gK B, UsersTh K p B] w1 → Calls Tryz.prog 22 #[.pointer (some ⟨q, 0, none⟩)] w1 fun e w' => e = .returned (.bool true) ∧ Below w.heap.size w w') := fun w1 h => by
                have hB0 := HB0.out
                subst hB0
                exact h.bookApart 1 rfl (by decide)
              clear z1
              go_wp2_with fail
              with_reducible refine (PG.out _).mono ?_
              rintro e v1 ⟨rfl, b1⟩
              have h1 : Hid _ := hH.out.below b1
              clear hH b1
              go_wp2_with fail
              with_reducible refine (PS.out _).mono ?_
              rintro e v2 ⟨⟨sx, rfl⟩, b2⟩
              have h2 : Hid _ := h1.out.below b2
              clear h1 b2
              go_wp2_with fail
              with_reducible refine (PF.out _).mono ?_
              rintro e v3 ⟨rfl, b3⟩
              have h3 : Hid _ := h2.out.below b3
              clear h2 b3
              go_wp2_with fail
              with_reducible refine (PL.out _).mono ?_
              rintro e v4 ⟨rfl, b4⟩
              have h4 : Hid _ := h3.out.below b4
              clear h3 b4
              go_wp2_with fail
              with_reducible refine (PC.out _).mono ?_
              rintro e v5 ⟨rfl, b5⟩
              have h5 : Hid _ := h4.out.below b5
              clear h4 b5
              go_wp2_with fail
              with_reducible refine (PM.out _).mono ?_
              rintro e v6 ⟨⟨ax, cx, rfl⟩, b6⟩
              have h6 : Hid _ := h5.out.below b6
              clear h5 b6
              go_wp2_with fail
              with_reducible refine (PAp.out _ h6.out).mono ?_
              rintro e v7 ⟨rfl, b7⟩
              go_wp2
              go_ret
              exact ⟨rfl, BB.out _ b7⟩

end Go.Proofs.YtjemklgfenciaaaGreat

/-
  The law on every play.
-/
namespace Go.Proofs.YtjemklgfenciaaaGreat
open Go.RowKit
set_option linter.unusedVariables false
set_option maxRecDepth 100000

theorem usersPlay_of (K : UsersKeeps) (o0 : Option Addr) (n0 c0 : Nat) (X0 : Nat → NS) (raw : Bool) (o2 : Option Addr) (n2 c2 : Nat) (X2 : Nat → Uop) (ask : Int) (w : World) (hask : I64U ask) (hx : PairsAt w o0 n0 X0) (hz : ∀ i, i < n0 → (X0 i).1.size ≤ maxLen ∧ (X0 i).2.size ≤ maxLen) (hno : o0 = none → c0 = 0 ∧ n0 = 0) (hs2 : UopsAt w o2 n2 X2) (hw2 : ∀ i, i < n2 → (X2 i).Wide) :
    Calls Tryz.prog 3 #[.slice o0 n0 c0, .bool raw, .slice o2 n2 c2, .int .i64 ask] w fun e w' => e = .returned (.bool true) ∧ Below w.heap.size w w' := by
  by_cases hl : 40 < n0 ∨ 100 < n2
  · exact usersPlay_long K o0 n0 c0 raw o2 n2 c2 ask w hl
  have hn : n0 ≤ 40 := by omega
  have hn2 : n2 ≤ 100 := by omega
  cases raw with
  | true =>
    cases hok : usersOk (listU X0 n0) with
    | true => exact usersPlay_yesRaw K o0 n0 c0 X0 o2 n2 c2 X2 ask w hx hz hno hn hn2 hs2 hw2 hask hok
    | false => exact usersPlay_noRaw K o0 n0 c0 X0 o2 n2 c2 ask w hx hz hn hn2 hok
  | false =>
    cases hok : usersOk (tidyU X0 n0) with
    | true => exact usersPlay_yesTidy K o0 n0 c0 X0 o2 n2 c2 X2 ask w hx hz hn hn2 hs2 hw2 hask hok
    | false => exact usersPlay_noTidy K o0 n0 c0 X0 o2 n2 c2 ask w hx hz hn hn2 hok

end Go.Proofs.YtjemklgfenciaaaGreat
