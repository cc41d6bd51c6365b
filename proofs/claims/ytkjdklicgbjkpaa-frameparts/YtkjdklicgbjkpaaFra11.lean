/-
  The law FrameParts over contracts of package frame.
-/
import Derived.Test.YtkjdklicgbjkpaaFra10
namespace Go.Proofs.Ytkjdklicgbjkpaa
open Go.RowKit
set_option linter.unusedVariables false
set_option maxRecDepth 100000
set_option linter.unusedSimpArgs false

theorem got_step {P A b : ByteArray} (hd : deadS P = false) (hT : deadS (P ++ A) = false) (n : Nat) (hn : n ≤ A.size) :
    framesS (P ++ A.extract 0 n) = framesS P ++ framesS (leftS P ++ A.extract 0 n) ∧ leftS (P ++ A.extract 0 n) = leftS (leftS P ++ A.extract 0 n) ∧ deadS (leftS P ++ A.extract 0 n) = false ∧ deadS (P ++ A.extract 0 n) = false ∧ P ++ A = P ++ A.extract 0 n ++ A.extract n A.size := by
  have e := fr_app P (A.extract 0 n) hd
  have hs : P ++ A = P ++ A.extract 0 n ++ A.extract n A.size := by rw [cat_assoc, extract_two A n hn]
  have hd2 : deadS (P ++ A.extract 0 n) = false := by
    cases h : deadS (P ++ A.extract 0 n) with
    | false => rfl
    | true =>
      have := fr_dead _ (A.extract n A.size) h
      rw [← hs, hT] at this
      cases this
  exact ⟨e.1, e.2.1, by rw [← e.2.2]; exact hd2, hd2, hs⟩

theorem ownT_news9 {w : World} {base g n cap : Nat} {l : List ByteArray} (h : OwnT w base (.slice (some ⟨g, 0, none⟩) n cap) l) : ∀ j u, (cellsT l)[j]? = some u → w.cell? ((⟨g, 0, none⟩ : Addr).add j) = some u := ownT_news h
theorem OwnT.cap {w : World} {b n c : Nat} {ao : Option Addr} {l : List ByteArray} (h : OwnT w b (.slice ao n c) l) (hn : n = l.length) : n ≤ c := by
  rcases h.2 with ⟨hv, h0⟩ | ⟨g, cap, cur, hv, _, _, hle, _⟩
  · simp at hv; omega
  · simp at hv; omega
/-- What the Reader's Feed left, beside the list. -/
theorem got_mid (K : FrameKeeps) {wr w4 : World} {bl bl1 : Nat → Prop} {B p : Nat} {v v1 : Value} {l : List ByteArray} {l2 : ByteArray} (hown : OwnT wr B v l) (hap : ∀ j, bl j → v.ownBlock ≠ some j) (hR1 : K.Rd w4 bl1 p l2 false) (hb1 : ∀ k, bl1 k → (bl k ∨ wr.heap.size ≤ k) ∧ v1.ownBlock ≠ some k) (t1 : Touch bl wr w4) :
    OwnT w4 B v l ∧ ∀ j, bl1 j → v.ownBlock ≠ some j := by
  refine ⟨own_touch hown t1 (fun k hk hS => hap k hS hk), fun j hj he => ?_⟩
  rcases (hb1 j hj).1 with h | h
  · exact hap j h he
  · have := (World.ownsRow.lt hown j he).2
    omega
theorem got_more (K : FrameKeeps) {w4 w6 : World} {bl1 : Nat → Prop} {p : Nat} {v v' : Value} {l2 : ByteArray} (hap : ∀ j, bl1 j → v.ownBlock ≠ some j) (hR1 : K.Rd w4 bl1 p l2 false) (hg : w4.grownBy w6 v.ownBlock) (hat : v'.ownBlock = v.ownBlock ∨ v'.ownBlock = some w4.heap.size ∧ w4.grownBy w6 none) :
    K.Rd w6 bl1 p l2 false ∧ ∀ j, bl1 j → v'.ownBlock ≠ some j := by
  have T : Touch (fun k => v.ownBlock = some k) w4 w6 := (Touch.refl _ w4).grown hg (fun k hk => Or.inl hk)
  refine ⟨K.touch hR1 T (fun k hk hS => hap k hk hS), fun j hj he => ?_⟩
  rcases hat with e | ⟨e, _⟩
  · exact hap j hj (e ▸ he)
  · rw [he] at e
    have h1 := Option.some.inj e
    have h2 := (K.lt hR1 j hj).2
    omega

set_option maxRecDepth 100000 in
set_option maxHeartbeats 4000000 in
theorem frameParts_of (K : FrameKeeps) (oa : Option Addr) (n c : Nat) (L : Nat → List UInt8) (ob : Option Addr) (m c2 : Nat) (C : Nat → Int) (w : World) (hn : n ≤ maxLen) (hm : m ≤ maxLen) (hs : StrsAt w oa n L) (ht : IntsAt w ob m C) :
    Calls Try.prog 4 #[.slice oa n c, .slice ob m c2] w fun e w' => e = .returned (.bool true) ∧ Below w.heap.size w w' := by
  have PA : Hid _ := alive9_of K
  unfold maxLen at hn hm
  cases d0 : decide (20 < (n : Int)) <;> cases d1 : decide (30 < (m : Int))
  case false.false =>
    have hn' : n ≤ 20 := by simp at d0; omega
    have hm' : m ≤ 30 := by simp at d1; omega
    clear hn hm
    have S0 : Hid (StrsAt w oa n L) := hs
    have T0 : Hid (IntsAt w ob m C) := ht
    clear hs ht
    go_enter Try.func4, Try.ntmps4
    go_wp2_with fail
    with_reducible refine (PA.out _).mono ?_
    rintro e w1 ⟨rfl, b1⟩
    have hle1 := b1.size
    go_wp2_with fail
    go_loopw [5, 6] (fun s i wr => ∃ k : Nat, k ≤ n ∧ s = .string (allF L k) ∧ i = .int .i64 k ∧ Hid (∀ i, i < k → 1 ≤ (str (L i)).size ∧ (str (L i)).size ≤ 500) ∧ Below w1.heap.size w1 wr) (fun _ i _ => n - (intOf i).toNat)
    case atStart => exact ⟨0, by omega, rfl, rfl, (fun i hi => by omega), Below.refl _ _⟩
    case round =>
      obtain ⟨k, hk, rfl, rfl, HS, B⟩ := hrel
      have hsz := (fr_all L k HS.out).2.2.2
      by_cases hlt : k < n
      · have hbel := b1.trans (B.mono hle1)
        obtain ⟨bb, oo, rfl, hc⟩ := S0.out.later hbel k hlt
        have HL : Hid (∀ w', Below w1.heap.size w1 w' → w'.cell? ⟨bb, oo + k, none⟩ = some (.string (str (L k)))) := by
          intro w' hb
          obtain ⟨b', o', h1, h2⟩ := S0.out.later (b1.trans (hb.mono hle1)) k hlt
          simp only [Option.some.injEq, Addr.mk.injEq] at h1
          obtain ⟨rfl, rfl, _⟩ := h1
          exact h2
        have dlt : decide ((k : Int) < (n : Int)) = true := by simp; omega
        have dlt2 : (k : Int) < (n : Int) := by omega
        have HA : Hid (allF L (k + 1) = allF L k ++ putFS (str (L k))) := rfl
        have HS2 : Hid (1 ≤ (str (L k)).size ∧ (str (L k)).size ≤ 500 → ∀ i, i < k + 1 → 1 ≤ (str (L i)).size ∧ (str (L i)).size ≤ 500) := fun h i hi => by
          rcases Nat.lt_or_ge i k with h1 | h1
          · exact HS.out i h1
          · rw [show i = k from by omega]; exact h
        generalize str (L k) = S at *
        generalize hAk : allF L k = Ak at *
        clear hAk
        by_cases hz2 : 500 < S.size
        · have d4 : decide (500 < (S.size : Int)) = true := by simp; omega
          go_wp2
          go_ret
          exact ⟨rfl, hbel⟩
        have d4 : decide (500 < (S.size : Int)) = false := by simp; omega
        have hSz : S.size ≤ 1000000 := by omega
        have p1 := fun w => K.put S w hSz
        have P1 : Hid _ := p1
        clear p1
        by_cases hz1 : S.size < 1
        · have d3 : decide (0 < (S.size : Int)) = false := decide_eq_false (by omega)
          have d5 : decide (0 < S.size) = false := decide_eq_false (by omega)
          have hno : ¬ (1 ≤ S.size ∧ S.size ≤ 2200) := by omega
          rw [(putFS_no S hno).1, (putFS_no S hno).2] at P1
          clear HA
          go_wp2_with fail
          with_reducible refine (P1.out _).mono ?_
          rintro e w3 ⟨rfl, b3⟩
          have B3 := B.trans (b3.mono B.size)
          have c3 := HL.out _ B3
          go_wp2
          go_ret
          exact ⟨rfl, b1.trans (B3.mono hle1)⟩
        · have d3 : decide (0 < (S.size : Int)) = true := decide_eq_true (by omega)
          have d5 : decide (0 < S.size) = true := decide_eq_true (by omega)
          rw [(putFS_yes S (by omega) (by omega)).1] at P1
          have hF := (putFS_yes S (by omega) (by omega)).2.2
          generalize putFS S = F at *
          have hln : ¬ (9223372036854775807 < Ak.size + F.size) := by omega
          clear hF
          go_wp2_with fail
          with_reducible refine (P1.out _).mono ?_
          rintro e w3 ⟨rfl, b3⟩
          have B3 := B.trans (b3.mono B.size)
          have c3 := HL.out _ B3
          go_wp2
          go_roundw
          case rel => exact ⟨k + 1, by omega, by rw [HA.out], by go_num, HS2.out ⟨by omega, by omega⟩, B3⟩
          case measure => simp [intOf]; omega
      · have dlt : decide ((k : Int) < (n : Int)) = false := by simp; omega
        obtain rfl : k = n := by omega
        obtain ⟨f1, f2, f3, f4⟩ := fr_all L k HS.out
        clear HS
        have hR := K.new wr
        have bN := reader_new wr
        have F1 : Hid _ := f1
        have F2 : Hid _ := f2
        have F3 : Hid _ := f3
        clear f1 f2 f3 hsz
        generalize allF L k = T at *
        go_wp2_with fail
        have hBw := B.size
        have hG : Got K w1.heap.size wr.heap.size (.slice none 0 0) ⟨#[]⟩ (wr.alloc (.cells #[.string ⟨#[]⟩, .bool false, .int .i64 0] 31)) := ⟨_, hR, World.ownsRow_nil _ _ _ _, rfl, fun j _ => by simp [Value.ownBlock]⟩
        have B2 := B.trans (bN.mono hBw)
        generalize wr.alloc (.cells #[.string ⟨#[]⟩, .bool false, .int .i64 0] 31) = w2 at *
        clear hR bN B
        generalize wr.heap.size = p at *
        go_loopw [5, 10, 11] (fun s v i wq => ∃ (k2 : Nat) (P A : ByteArray), k2 ≤ m + 1 ∧ s = .string A ∧ i = .int .i64 k2 ∧ Hid (P ++ A = T) ∧ A.size ≤ 10040 ∧ Hid (k2 = m + 1 → A = ⟨#[]⟩) ∧ Got K w1.heap.size p v P wq ∧ Below w1.heap.size w1 wq) (fun _ _ i _ => m + 1 - (intOf i).toNat)
        case atStart => exact ⟨0, ⟨#[]⟩, T, by omega, rfl, rfl, none_cat T, by omega, (fun h => by omega), hG, B2⟩
        case round =>
          clear hG B2
          obtain ⟨k2, P, A, hk2, rfl, rfl, HPA, hA, HE, hG, B⟩ := hrel
          obtain ⟨bl, hR, hown, hdP, hap⟩ := hG
          by_cases hlt2 : k2 < m + 1
          · have dle : decide ((k2 : Int) ≤ (m : Int)) = true := decide_eq_true (by omega)
            have HD : Hid (deadS P = false) := hdP
            clear hdP
            obtain ⟨i0, hi0, hz0, hz1, hz2⟩ := info_parts infoT
            have hml := many_frames P
            have hPs : P.size + A.size = T.size := by rw [← HPA.out, ByteArray.size_append]
            have hll := (left_lt P).2
            have hfl : (framesS P).length ≤ 10040 := by omega
            -- where the part ends
            have HQ : Hid (∃ q : Nat, q ≤ A.size ∧ (k2 = m → q = A.size) ∧ (k2 < m → ∃ bb oo, ob = some ⟨bb, oo, none⟩ ∧ wr.cell? ⟨bb, oo + k2, none⟩ = some (.int .i64 (C k2)) ∧ wrap64 ((A.size : Int) + 1) = (A.size : Int) + 1 ∧ wrap64 ((C k2).tmod ((A.size : Int) + 1) + (A.size : Int)) = (C k2).tmod ((A.size : Int) + 1) + (A.size : Int) ∧ wrap64 ((C k2).tmod ((A.size : Int) + 1) + (A.size : Int) + 1) = (C k2).tmod ((A.size : Int) + 1) + (A.size : Int) + 1 ∧ ((C k2).tmod ((A.size : Int) + 1) + (A.size : Int) + 1).tmod ((A.size : Int) + 1) = (q : Int))) := by
              show ∃ q : Nat, _
              by_cases hkm : k2 < m
              · obtain ⟨q, hq, r1, r2, r3, r4⟩ := cut_at (C k2) A.size (by omega)
                obtain ⟨bb, oo, ho, hc⟩ := T0.out.later (b1.trans (B.mono hle1)) k2 hkm
                exact ⟨q, hq, fun h => by omega, fun _ => ⟨bb, oo, ho, hc, r1, r2, r3, r4⟩⟩
              · exact ⟨A.size, Nat.le_refl _, fun _ => rfl, fun h => by omega⟩
            obtain ⟨q, hq, hq1, hq2⟩ := HQ.out
            clear HQ
            have HG := got_step (b := A) HD.out (by rw [HPA.out]; exact F3.out) q hq
            have PL := K.live wr bl p (leftS P) (A.extract 0 q) hR (by rw [ByteArray.size_extract]; omega)
            rw [HG.2.2.1] at PL
            have hx1 : (A.extract 0 q).size = q := by rw [ByteArray.size_extract]; omega
            have hx2 : (A.extract q A.size).size = A.size - q := by rw [ByteArray.size_extract]; omega
            have hml2 := many_frames (leftS P ++ A.extract 0 q)
            rw [ByteArray.size_append, hx1] at hml2
            have HE2 : Hid (k2 = m → A.extract q A.size = ⟨#[]⟩) := fun h => by rw [hq1 h]; exact extract_end A
            have HGH : Hid _ := HG
            have HPA2 : Hid (P ++ A.extract 0 q ++ A.extract q A.size = T) := by
              show _ = T
              rw [← HG.2.2.2.2]; exact HPA.out
            clear HG HPA
            generalize hPx : P ++ A.extract 0 q = P2 at *
            clear hPx
            obtain ⟨nl, hnl⟩ : ∃ nl, (framesS P).length = nl := ⟨_, rfl⟩
            obtain ⟨ao, co, rfl⟩ : ∃ a c, u10 = .slice a nl c := by
              have := OwnT.shape hown
              rw [hnl] at this
              exact this
            have hcap := OwnT.cap hown hnl.symm
            have HNL : Hid ((framesS P).length = nl) := hnl
            rw [hnl] at hfl
            generalize hfs2 : framesS (leftS P ++ A.extract 0 q) = fs2 at *
            generalize leftS (leftS P ++ A.extract 0 q) = L2 at *
            have hfs2l : fs2.length ≤ 20000 := by omega
            clear hml hml2 hPs hll hfs2 hnl HE
            have dq1 : (0 : Int) ≤ (q : Int) := by omega
            have dq2 : (q : Int) ≤ (A.size : Int) := by omega
            have S2 : ∀ w : World, (Instr.slice 9 (.string A) (some (.int .i64 (q : Int))) none none).run Try.prog w = .ok (.string (A.extract q A.size)) w := fun w => by
              rw [run_slice_string_l (P := Try.prog) w 9 A Try.underlying9 .i64 (q : Int) (by omega) (by omega)]
              rfl
            have S1 : ∀ w : World, (Instr.slice 9 (.string A) none (some (.int .i64 (q : Int))) none).run Try.prog w = .ok (.string (A.extract 0 q)) w := fun w => by
              rw [run_slice_string_h (P := Try.prog) w 9 A Try.underlying9 .i64 (q : Int) (by omega) (by omega)]
              rfl
            generalize A.extract 0 q = Hd at *
            generalize A.extract q A.size = Tl at *
            by_cases hkm : k2 < m
            case' pos =>
              have dcut : decide ((k2 : Int) < (m : Int)) = true := decide_eq_true (by omega)
              have dcut2 : (k2 : Int) < (m : Int) := by omega
              have dN := succ_ne9 A.size
              obtain ⟨bb, oo, rfl, hc, r1, r2, r3, r4⟩ := hq2 hkm
            case' neg =>
              have hkk : k2 = m := by omega
              have hqa := hq1 hkk
              have dcut : decide ((k2 : Int) < (m : Int)) = false := decide_eq_false (by omega)
              rw [hqa] at S1 S2
            all_goals
              clear hq1 hq2
              go_wp2_with fail
              with_reducible refine PL.mono ?_
              rintro e w4 ⟨v1, bl1, hv1, rfl, hR1, hb1, t1⟩
              try clear r1 r2 r3 r4 hc dN
              obtain ⟨hown4, hap4⟩ := got_mid K hown hap hR1 hb1 t1
              have B4 := B.trans (K.bel hR t1 hBw B.size)
              have hown4' : w4.ownsRow w1.heap.size 9 1 (.slice ao nl co) nl (cellsT (framesS P)) := by have := hown4; unfold OwnT at this; rwa [HNL.out] at this
              rcases hv1.2 with ⟨rfl, hn0⟩ | ⟨g, cap, cur, rfl, _⟩
              · have hfs0 : fs2 = [] := List.eq_nil_of_length_eq_zero hn0
                have hrun := fun ty => run_append_nothing (P := Try.prog) w4 22 22 ty 9 i0 Try.underlying22 hi0 ao nl co hcap (.slice none 0 0) (Src.ofNil w4 Try.underlying22 0)
                have HRN : Hid _ := hrun
                clear hv1 hb1 t1 hR PL hn0 hrun
                go_wp2_with (first | (at_builtin; refine wpList_append_none rfl (.tmp 101) (.tmp 102) 22 rfl (.slice ao nl co) (.slice none 0 0) rfl rfl HRN.out ?_))
                go_wp2
                go_roundw
                case rel =>
                  refine ⟨k2 + 1, P2, Tl, by omega, rfl, by go_num, HPA2, by omega, (fun h => HE2.out (by omega)), ⟨bl1, ?_, ?_, HGH.out.2.2.2.1, hap4⟩, B4⟩
                  · rw [HGH.out.2.1]; exact hR1
                  · rw [HGH.out.1, hfs0, List.append_nil]; exact hown4
                case measure => simp [intOf]; omega
              · have hnews : ∀ j u, (cellsT fs2)[j]? = some u → w4.cell? ((⟨g, 0, none⟩ : Addr).add j) = some u := ownT_news9 hv1
                have hvs := hv1
                clear hv1 hb1 t1 hR PL
                obtain ⟨n2, hn2⟩ : ∃ n2, fs2.length = n2 := ⟨_, rfl⟩
                have HN2 : Hid (fs2.length = n2) := hn2
                rw [hn2] at hfs2l ⊢
                clear hn2 hvs
                go_wp2_with (first | (at_builtin; refine wpList_append_two _ rfl (.tmp 101) (.tmp 102) 22 rfl w1.heap.size 9 i0 (.string ⟨#[]⟩) 1 16 Try.underlying22 hi0 hz0 hz1 hz2 rfl (by decide) (.slice ao nl co) nl (cellsT (framesS P)) rfl hown4' ⟨g, 0, none⟩ n2 cap (cellsT fs2) rfl (by rw [cellsT_len, HN2.out, Nat.mul_one]) hnews (cellsT_one _) (by unfold maxLen; omega) (by omega) B4.size ?_))
                intro v' w6 ho6 hg6 hat6
                obtain ⟨hR6, hap6⟩ := got_more K hap4 hR1 hg6 hat6
                have B6 : Below w1.heap.size w1 w6 := B4.grown hg6 B4.size (fun j hj => (hown4'.lt j hj).1)
                go_wp2
                go_roundw
                case rel =>
                  refine ⟨k2 + 1, P2, Tl, by omega, rfl, by go_num, HPA2, by omega, (fun h => HE2.out (by omega)), ⟨bl1, ?_, ?_, HGH.out.2.2.2.1, hap6⟩, B6⟩
                  · rw [HGH.out.2.1]; exact hR6
                  · rw [HGH.out.1]; unfold OwnT; rw [cellsT_append, List.length_append, HNL.out, HN2.out]; exact ho6
                case measure => simp [intOf]; omega
          · obtain rfl : k2 = m + 1 := by omega
            have dle : decide (((m + 1 : Nat) : Int) ≤ (m : Int)) = false := decide_eq_false (by omega)
            have dle2 : decide ((m : Int) + 1 ≤ (m : Int)) = false := decide_eq_false (by omega)
            have hA0 := HE.out rfl
            have hPT : P = T := by rw [← HPA.out, hA0, cat_none]
            rw [hPT, F1.out] at hown
            rw [hPT, F2.out] at hR
            obtain ⟨og, cg, rfl, hst⟩ := hown.strs
            have hs2 := S0.out.later (b1.trans (B.mono hle1))
            have PQ := book_sameTextsA k cg c L og oa _ hst hs2 (by omega)
            clear hst hs2 hown hap HE HPA
            go_wp2_with fail
            with_reducible refine PQ.mono ?_
            rintro e w4 ⟨rfl, b4⟩
            replace hR := K.below hR b4
            have B4 := B.trans (b4.mono B.size)
            clear b4 PQ
            go_wp2_with fail
            with_reducible refine (K.waits _ bl p _ _ hR).mono ?_
            rintro e w6 ⟨rfl, hR6, t6⟩
            have B6 := B4.trans (K.bel hR t6 hBw B4.size)
            go_wp2
            go_ret
            exact ⟨rfl, b1.trans (B6.mono hle1)⟩
  all_goals
    go_enter Try.func4, Try.ntmps4
    go_wp2_with fail
    with_reducible refine (PA.out _).mono ?_
    rintro e w1 ⟨rfl, b1⟩
    go_wp2
    go_ret
    exact ⟨rfl, b1⟩

end Go.Proofs.Ytkjdklicgbjkpaa
