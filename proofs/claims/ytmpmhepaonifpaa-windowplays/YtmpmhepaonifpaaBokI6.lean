/-
  The book's lists of whole numbers: the contract of growInts.
-/
import Derived.Test.YtmpmhepaonifpaaBokI5
namespace Go.Proofs.Ytmpmhepaonifpaa
open Go.RowKit
set_option linter.unusedVariables false
set_option maxRecDepth 100000
set_option linter.unusedSimpArgs false

theorem ownI_news {w : World} {base g n cap : Nat} {l : List Int} (h : OwnI w base (.slice (some ⟨g, 0, none⟩) n cap) l) : ∀ j u, (cellsI l)[j]? = some u → w.cell? ((⟨g, 0, none⟩ : Addr).add j) = some u := seenI_news h.seen

set_option maxRecDepth 100000 in
set_option maxHeartbeats 1000000 in
theorem book_growInts (p base : Nat) (F : List Value) (vo : Value) (vs : List Value) (ns : List Nat) (w : World) (hF : ∃ q, RowIs w p q F) (h2 : F[2]? = some vo) (hvo : Seen w vo vs) (hv : vs.length = ns.length)
    (hk : ∀ (i : Nat) (v : Value) (n : Nat), vs[i]? = some v → ns[i]? = some n → OwnI w base v (marksI i 0 n)) (hP : Parted vs) (hp : ¬ Blocks vs p) (hov : ∀ k, vo.ownBlock = some k → ¬ Blocks vs k) (hN : vs.length ≤ 1000) (hl : ∀ (i n : Nat), ns[i]? = some n → n ≤ 1000000) (hbase : base ≤ w.heap.size) :
    Calls Try.prog 36 #[.pointer (some ⟨p, 0, none⟩)] w fun e w' => (∃ out os, GrownI w w' vs ns vs.length out os ∧ e = .returned out) ∧ Touch (Blocks vs) w w' := by
  obtain ⟨q, hrow⟩ := hF
  have hc2 : w.cell? ⟨p, 2, none⟩ = some vo := hrow.cellAt h2
  clear hrow h2
  have HG0 : Hid (GrownI w w vs ns 0 (.slice none 0 0) []) := ⟨rfl, World.ownsRow_nil w _ _ _, fun j o n h => by simp at h, fun j o h => by simp at h, fun j v n hv hn => (hk j v n hv hn).seen⟩
  by_cases h0 : vs.length = 0
  · obtain ⟨ao, cap, rfl⟩ := hvo.form
    rw [h0] at hc2
    rw [h0]
    clear hvo hv hk hP hp hov hN hl h0 hbase
    go_enter Try.func36, Try.ntmps36
    go_wp2_with fail
    go_loopw [3, 4] (fun o i wr => o = .slice none 0 0 ∧ i = .int .i64 0 ∧ wr = w) (fun _ _ _ => 0)
    case atStart => exact ⟨rfl, rfl, rfl⟩
    case round =>
      obtain ⟨rfl, rfl, rfl⟩ := hrel
      go_wp2
      go_ret
      exact ⟨⟨_, _, HG0.out, rfl⟩, Touch.refl _ _⟩
  · obtain ⟨i0, hi0, hz0, hz1, hz2⟩ := info_parts infoI
    obtain ⟨iS, hiS, hy0, hy1, hy2⟩ := info_parts infoSl
    obtain ⟨go, co, rfl, hco⟩ := seen_cell hvo (by omega)
    have HCO : Hid _ := hco
    have hgo : ¬ Blocks vs go := hov go rfl
    have hvs : ∀ b, Blocks vs b → b < w.heap.size := by
      rintro b ⟨v, hm, e⟩
      obtain ⟨i, hi⟩ := List.getElem?_of_mem hm
      have hlt : i < ns.length := by rw [← hv]; exact (List.getElem?_eq_some_iff.1 hi).1
      exact (World.ownsRow.lt (hk i v ns[i] hi (List.getElem?_eq_getElem hlt)) b e).2
    have HVS : Hid _ := hvs
    have HPT : Hid _ := hP
    have HK : Hid _ := hk
    have HL : Hid _ := hl
    clear hco hvo hov hvs hP hk hl
    obtain ⟨N, hNN⟩ : ∃ N, vs.length = N := ⟨_, rfl⟩
    have HNN : Hid (vs.length = N) := hNN
    have HNS : Hid (ns.length = N) := by show ns.length = N; omega
    rw [hNN] at hc2 hN h0 ⊢
    clear hNN hv
    go_enter Try.func36, Try.ntmps36
    go_wp2_with fail
    go_loopw [3, 4] (fun o i wr => ∃ (k : Nat) (os : List Value), k ≤ N ∧ i = .int .i64 k ∧ GrownI w wr vs ns k o os ∧ Touch (Blocks vs) w wr ∧ ∀ (j : Nat) (v : Value) (n : Nat), k ≤ j → vs[j]? = some v → ns[j]? = some n → OwnI wr base v (marksI j 0 n)) (fun _ i _ => N - (intOf i).toNat)
    case atStart => exact ⟨0, [], Nat.zero_le _, rfl, HG0.out, Touch.refl _ _, fun j v n _ h1 h2 => HK.out j v n h1 h2⟩
    case round =>
      clear HG0
      obtain ⟨k, os, hk, rfl, hG, htw, hrest⟩ := hrel
      have hcr : wr.cell? ⟨p, 2, none⟩ = some (.slice (some ⟨go, 0, none⟩) N co) := touch_cell htw hc2 hp
      obtain ⟨ao3, c3, rfl⟩ : ∃ ao c, u3 = .slice ao k c := by
        have := (own_seen hG.own).form
        rw [hG.len] at this
        exact this
      by_cases hlt : k < N
      · obtain ⟨v, hv⟩ : ∃ v, vs[k]? = some v := ⟨vs[k]'(by rw [HNN.out]; exact hlt), List.getElem?_eq_getElem (by rw [HNN.out]; exact hlt)⟩
        obtain ⟨n, hn⟩ : ∃ n, ns[k]? = some n := ⟨ns[k]'(by rw [HNS.out]; exact hlt), List.getElem?_eq_getElem (by rw [HNS.out]; exact hlt)⟩
        have hnn := HL.out k n hn
        have hown := hrest k v n (Nat.le_refl _) hv hn
        have hcv : wr.cell? ⟨go, k, none⟩ = some v := touch_cell htw (HCO.out k v hv) hgo
        have d1 : decide ((k : Int) < (N : Int)) = true := by simp; omega
        have d2 : (k : Int) < (N : Int) := by omega
        have hb0 : base ≤ wr.heap.size := Nat.le_trans hbase htw.size
        have PM : Hid (∀ (a m : Nat) (w : World), a ≤ 100000000 → m ≤ 100 → Calls Try.prog 59 #[.int .i64 k, .int .i64 a, .int .i64 m] w fun e w' => (∃ v, OwnI w' w.heap.size v (marksI k a m) ∧ e = .returned v) ∧ Below w.heap.size w w') := fun a m w ha hm => book_markInts k a m w (by omega) (by omega) (by omega)
        have hvlt : ∀ b, v.ownBlock = some b → b < wr.heap.size := fun b hb => (World.ownsRow.lt hown b hb).2
        have HVL : Hid _ := hvlt
        have HG : Hid _ := hG
        have HTW : Hid _ := htw
        have HR : Hid _ := hrest
        clear hvlt hG htw hrest
        obtain ⟨ao, cap, rfl⟩ := hown.shape
        rw [marksI_len] at hown hcv HVL hv
        go_wp2_with fail
        generalize wr = wo at *
        go_loopw [5, 6] (fun l i wq => ∃ t : Nat, t ≤ 12 ∧ i = .int .i64 t ∧ OwnI wq base l (marksI k 0 (n + t)) ∧ (l.ownBlock = (Value.slice ao n cap).ownBlock ∨ ∃ b, l.ownBlock = some b ∧ wo.heap.size ≤ b) ∧ Seen wq (.slice ao n cap) (cellsI (marksI k 0 n)) ∧ Touch (fun b => (Value.slice ao n cap).ownBlock = some b) wo wq) (fun _ i _ => 12 - (intOf i).toNat)
        case atStart => exact ⟨0, by omega, rfl, hown, Or.inl rfl, hown.seen, Touch.refl _ _⟩
        case round =>
          clear hown hcr hcv
          obtain ⟨s, hs, rfl, ho, hu, sv, tt⟩ := hrel
          obtain ⟨ao5, c5, rfl⟩ := ho.shape
          obtain ⟨m, hm⟩ : ∃ m, n + s = m := ⟨_, rfl⟩
          have hmm : m ≤ 1000100 := by omega
          rw [marksI_len, hm] at ho hu ⊢
          have hbr : base ≤ wr.heap.size := Nat.le_trans hb0 tt.size
          by_cases hs12 : s < 12
          · have PM1 : Hid (∀ w, Calls Try.prog 59 #[.int .i64 k, .int .i64 m, .int .i64 1] w fun e w' => (∃ v, OwnI w' w.heap.size v (marksI k m 1) ∧ e = .returned v) ∧ Below w.heap.size w w') := fun w => PM.out m 1 w (by omega) (by omega)
            have HM : Hid (n + s = m) := hm
            have e1 : decide ((s : Int) < 12) = true := by simp; omega
            clear hm
            have HHU : Hid _ := hu
            have HSV : Hid _ := sv
            have HTT : Hid _ := tt
            clear hu sv tt
            go_wp2_with fail
            with_reducible refine (PM1.out _).mono ?_
            rintro e w2 ⟨⟨vm, hvm, rfl⟩, b2⟩
            obtain ⟨gm, cm, rfl, _, _⟩ := hvm.form (by rw [marksI_len]; omega)
            rw [marksI_len] at hvm ⊢
            have ho2 : w2.ownsRow base 3 1 (.slice ao5 m c5) m (cellsI (marksI k 0 m)) := by have := ho.below b2; unfold OwnI at this; rwa [marksI_len] at this
            have hnw := ownI_news hvm
            have hl1 : (cellsI (marksI k m 1)).length = 1 * 1 := by rw [cellsI_len, marksI_len]
            have hb2 : base ≤ w2.heap.size := Nat.le_trans hbr b2.size
            go_wp2_with (first | (at_builtin; refine wpList_append_two _ rfl (.tmp 27) (.tmp 31) 22 rfl base 3 i0 (.int .i64 0) 1 8 Try.underlying22 hi0 hz0 hz1 hz2 rfl (by decide) (.slice ao5 m c5) m (cellsI (marksI k 0 m)) rfl ho2 ⟨gm, 0, none⟩ 1 cm (cellsI (marksI k m 1)) rfl hl1 hnw (cellsI_one _) (by unfold maxLen; omega) (by omega) hb2 ?_))
            intro v' w3 ho3 hg3 hat3
            have em := HM.out
            have ho3' : w3.ownsRow base 3 1 v' (m + 1) (cellsI (marksI k 0 n) ++ cellsI (marksI k (0 + n) (s + 1))) := by
              rw [← cellsI_append, marksI_app, show n + (s + 1) = m + 1 from by omega, ← marksI_app k 0 m 1, cellsI_append, Nat.zero_add]
              exact ho3
            obtain ⟨r1, r2, r3⟩ := grow_step b2 HSV.out HHU.out HVL.out HTT.out ho3' hg3 hat3
            have ho4 : OwnI w3 base v' (marksI k 0 (n + (s + 1))) := by
              unfold OwnI
              rw [marksI_len, show n + (s + 1) = m + 1 from by omega, ← marksI_app k 0 m 1, cellsI_append, Nat.zero_add]
              exact ho3
            clear ho3' ho3 em
            obtain ⟨ao', c', rfl⟩ := ho4.shape
            go_wp2
            go_roundw
            case rel => exact ⟨s + 1, by omega, by go_num, ho4, r2, r1, r3⟩
            case measure => simp [intOf]; omega
          · obtain rfl : s = 12 := by omega
            have PM1 : Hid (∀ w, Calls Try.prog 59 #[.int .i64 k, .int .i64 m, .int .i64 60] w fun e w' => (∃ v, OwnI w' w.heap.size v (marksI k m 60) ∧ e = .returned v) ∧ Below w.heap.size w w') := fun w => PM.out m 60 w (by omega) (by omega)
            have HM : Hid (n + 12 = m) := hm
            clear hm
            have HHU : Hid _ := hu
            have HSV : Hid _ := sv
            have HTT : Hid _ := tt
            clear hu sv tt
            go_wp2_with fail
            with_reducible refine (PM1.out _).mono ?_
            rintro e w2 ⟨⟨vm, hvm, rfl⟩, b2⟩
            obtain ⟨gm, cm, rfl, _, _⟩ := hvm.form (by rw [marksI_len]; omega)
            rw [marksI_len] at hvm ⊢
            have ho2 : w2.ownsRow base 3 1 (.slice ao5 m c5) m (cellsI (marksI k 0 m)) := by have := ho.below b2; unfold OwnI at this; rwa [marksI_len] at this
            have hnw := ownI_news hvm
            have hl1 : (cellsI (marksI k m 60)).length = 60 * 1 := by rw [cellsI_len, marksI_len]
            have hb2 : base ≤ w2.heap.size := Nat.le_trans hbr b2.size
            go_wp2_with (first | (at_builtin; refine wpList_append_two _ rfl (.tmp 34) (.tmp 38) 22 rfl base 3 i0 (.int .i64 0) 1 8 Try.underlying22 hi0 hz0 hz1 hz2 rfl (by decide) (.slice ao5 m c5) m (cellsI (marksI k 0 m)) rfl ho2 ⟨gm, 0, none⟩ 60 cm (cellsI (marksI k m 60)) rfl hl1 hnw (cellsI_one _) (by unfold maxLen; omega) (by omega) hb2 ?_))
            intro v' w3 ho3 hg3 hat3
            have em := HM.out
            have ho3' : w3.ownsRow base 3 1 v' (m + 60) (cellsI (marksI k 0 n) ++ cellsI (marksI k (0 + n) 72)) := by
              rw [← cellsI_append, marksI_app, show n + 72 = m + 60 from by omega, ← marksI_app k 0 m 60, cellsI_append, Nat.zero_add]
              exact ho3
            obtain ⟨r1, r2, r3⟩ := grow_step b2 HSV.out HHU.out HVL.out HTT.out ho3' hg3 hat3
            have ho4 : OwnI w3 base v' (marksI k 0 (n + 72)) := by
              unfold OwnI
              rw [marksI_len, show n + 72 = m + 60 from by omega, ← marksI_app k 0 m 60, cellsI_append, Nat.zero_add]
              exact ho3
            clear ho3' ho3 em
            have hw3 : w.heap.size ≤ w3.heap.size := Nat.le_trans HTW.out.size r3.size
            have hoo : w3.ownsRow w.heap.size 22 1 (.slice ao3 k c3) k os := own_touch HG.out.own r3 (fun b hb hS => by
              have h1 := (World.ownsRow.lt HG.out.own b hb).1
              have h2 := HVS.out b ⟨_, List.mem_of_getElem? hv, hS⟩
              omega)
            obtain ⟨av, cv, rfl⟩ : ∃ a c, v' = .slice a (m + 60) c := by
              have := ho4.shape
              rw [marksI_len, show n + 72 = m + 60 from by have := HM.out; omega] at this
              exact this
            have R1 : Hid _ := r1
            have R2 : Hid _ := r2
            have R3 : Hid _ := r3
            have H4 : Hid _ := ho4
            clear r1 r2 r3 ho4 hat3 hg3 ho2 hvm hnw hl1 b2 ho
            go_wp2_with (first | (at_builtin; refine wpList_append_two _ rfl (.tmp 33) (.tmp 40) 36 rfl w.heap.size 22 iS (.slice none 0 0) 1 24 Try.underlying36 hiS hy0 hy1 hy2 rfl (by decide) (.slice ao3 k c3) k os rfl (hoo.alloc _) ⟨w3.heap.size, 0, none⟩ 1 1 [.slice av (m + 60) cv] rfl rfl (cell_one_new w3 (.slice av (m + 60) cv) 22) (by intro u hu; simp at hu; rw [hu]; rfl) (by unfold maxLen; omega) (by omega) (by simp; omega) ?_))
            intro out' w5 ho5 hg5 hat5
            have hb3 : ∀ b, (Value.slice av (m + 60) cv).ownBlock = some b → b < w3.heap.size := fun b hb => (World.ownsRow.lt H4.out b hb).2
            obtain ⟨q1, q2, q3⟩ := GrownI.next (base := base) HG.out hv hn HPT.out HVS.out HTW.out R3.out R1.out (OwnI.seen H4.out) R2.out hb3 ho5 hg5 hat5
            obtain ⟨ao', c', rfl⟩ : ∃ ao c, out' = .slice ao (k + 1) c := by
              have := (own_seen q1.own).form
              rw [q1.len] at this
              exact this
            have hrest : ∀ (j : Nat) (u : Value) (i : Nat), k + 1 ≤ j → vs[j]? = some u → ns[j]? = some i → OwnI w5 base u (marksI j 0 i) := by
              intro j u i hj hu hi
              refine own_touch (HR.out j u i (by omega) hu hi) q3 (fun b hb hS => ?_)
              rcases hS with hS | hS
              · exact HPT.out j k u _ (by omega) hu hv b hb hS
              · have h1 := HVS.out b ⟨u, List.mem_of_getElem? hu, hb⟩
                have h2 := (World.ownsRow.lt HG.out.own b hS).1
                omega
            clear ho5 hg5 hat5 hoo hb3
            go_wp2
            go_roundw
            case rel => exact ⟨k + 1, _, by omega, by go_num, q1, q2, hrest⟩
            case measure => simp [intOf]; omega
      · obtain rfl : k = N := by omega
        have d1 : decide ((k : Int) < (k : Int)) = false := by simp
        go_wp2
        go_ret
        exact ⟨⟨_, _, hG, rfl⟩, htw⟩

end Go.Proofs.Ytmpmhepaonifpaa
