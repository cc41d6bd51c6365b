/-
  The book's lists of whole numbers: putInts marks every one of them.
-/
import Derived.Test.YtmpmhepaonifpaaBokI2
namespace Go.Proofs.Ytmpmhepaonifpaa
open Go.RowKit
set_option linter.unusedVariables false
set_option maxRecDepth 100000
set_option linter.unusedSimpArgs false

theorem OwnI.storeT {w : World} {base g n cap : Nat} {l : List Int} {S : Nat → Prop} {w0 : World} (h : OwnI w base (.slice (some ⟨g, 0, none⟩) n cap) l) (hn : n = l.length) (j : Nat) (x : Int) (ht : Touch S w0 w) (hS : S g) : OwnI (w.setCell ⟨g, j, none⟩ (.int .i64 x)) base (.slice (some ⟨g, 0, none⟩) n cap) (l.set j x) ∧ Touch S w0 (w.setCell ⟨g, j, none⟩ (.int .i64 x)) :=
  ⟨h.store hn j x, ht.set (Or.inl hS) _⟩

set_option maxRecDepth 100000 in
set_option maxHeartbeats 1000000 in
theorem book_putInts (p base : Nat) (F : List Value) (vo : Value) (vs : List Value) (ls : List (List Int)) (w : World) (hF : ∃ q, RowIs w p q F) (h2 : F[2]? = some vo) (hvo : Seen w vo vs) (hk : KeptI w base vs ls) (hp : ¬ Blocks vs p) (hov : ∀ k, vo.ownBlock = some k → ¬ Blocks vs k) (hN : vs.length ≤ 1000) (hl : ∀ (i : Nat) (l : List Int), ls[i]? = some l → l.length ≤ 1000000) :
    Calls Try.prog 30 #[.pointer (some ⟨p, 0, none⟩)] w fun e w' => e = .returned (.tuple #[]) ∧ KeptI w' base vs (markTo ls ls.length) ∧ Touch (Blocks vs) w w' := by
  obtain ⟨q, hrow⟩ := hF
  have hc2 : w.cell? ⟨p, 2, none⟩ = some vo := hrow.cellAt h2
  have hkl := hk.len
  have HKL : Hid (vs.length = ls.length) := hk.len
  clear hrow h2
  have HK0 : Hid (KeptI w base vs (markTo ls 0)) := by show KeptI _ _ _ _; rw [markTo_zero]; exact hk
  clear hk
  by_cases h0 : vs.length = 0
  · obtain ⟨ao, cap, rfl⟩ := hvo.form
    rw [h0] at hc2 hkl
    rw [← hkl]
    clear hkl hN hl hov HKL hvo h0
    go_enter Try.func30, Try.ntmps30
    go_wp2_with fail
    go_loopw [2] (fun i wr => i = .int .i64 0 ∧ wr = w) (fun i _ => 0)
    case atStart => exact ⟨rfl, rfl⟩
    case round =>
      obtain ⟨rfl, rfl⟩ := hrel
      go_wp2
      go_end0
      exact ⟨rfl, HK0.out, Touch.refl _ _⟩
  · obtain ⟨go, co, rfl, hco⟩ := seen_cell hvo (by omega)
    have HCO : Hid _ := hco
    have hgo : ¬ Blocks vs go := hov go rfl
    clear hco hvo hov hkl
    obtain ⟨N, hNN⟩ : ∃ N, vs.length = N := ⟨_, rfl⟩
    rw [hNN] at hc2 hN h0 HKL
    have HNN : Hid (vs.length = N) := hNN
    clear hNN
    go_enter Try.func30, Try.ntmps30
    go_wp2_with fail
    go_loopw [2] (fun i wr => ∃ k : Nat, k ≤ N ∧ i = .int .i64 k ∧ KeptI wr base vs (markTo ls k) ∧ Touch (Blocks vs) w wr) (fun i _ => N - (intOf i).toNat)
    case atStart => exact ⟨0, Nat.zero_le _, rfl, HK0.out, Touch.refl _ _⟩
    case round =>
      clear HK0
      obtain ⟨k, hk, rfl, hkept, ht⟩ := hrel
      have hcr : wr.cell? ⟨p, 2, none⟩ = some (.slice (some ⟨go, 0, none⟩) N co) := touch_cell ht hc2 hp
      by_cases hlt : k < N
      · obtain ⟨v, hv⟩ : ∃ v, vs[k]? = some v := ⟨vs[k]'(by rw [HNN.out]; exact hlt), List.getElem?_eq_getElem (by rw [HNN.out]; exact hlt)⟩
        obtain ⟨l, hll⟩ : ∃ l, ls[k]? = some l := ⟨ls[k]'(by rw [← HKL.out]; exact hlt), List.getElem?_eq_getElem (by rw [← HKL.out]; exact hlt)⟩
        have hln := hl k l hll
        have HL : Hid _ := hl
        clear hl
        have hml : (markTo ls k)[k]? = some l := by rw [markTo_at ls k k l hll, if_neg (by omega)]
        have hown := hkept.each k v l hv hml
        have hcv : wr.cell? ⟨go, k, none⟩ = some v := touch_cell ht (HCO.out k v hv) hgo
        have HM : Hid ((markTo ls k).set k (marksI k 0 l.length) = markTo ls (k + 1)) := markTo_succ ls k l hll
        have d1 : decide ((k : Int) < (N : Int)) = true := by simp; omega
        have d2 : (k : Int) < (N : Int) := by omega
        obtain ⟨ao, cap, rfl⟩ := hown.shape
        have PM : Hid (∀ w, Calls Try.prog 59 #[.int .i64 k, .int .i64 0, .int .i64 l.length] w fun e w' => (∃ v, OwnI w' w.heap.size v (marksI k 0 l.length) ∧ e = .returned v) ∧ Below w.heap.size w w') := fun w => book_markInts k 0 l.length w (by omega) (by omega) (by omega)
        have hbk : ∀ b, (Value.slice ao l.length cap).ownBlock = some b → Blocks vs b := fun b hb => ⟨_, List.mem_of_getElem? hv, hb⟩
        have hml2 := marksI_len k 0 l.length
        clear hml
        go_wp2_with fail
        with_reducible refine (PM.out _).mono ?_
        rintro e w1 ⟨⟨vm, hm, rfl⟩, b1⟩
        have hown1 : OwnI w1 base (.slice ao l.length cap) l := hown.below b1
        have hkept1 := hkept.below b1
        have t1 : Touch (Blocks vs) w w1 := ht.trans (Touch.of_below b1)
        obtain ⟨am, cm, rfl⟩ := hm.shape
        have hgm : ∀ b, (Value.slice am (marksI k 0 l.length).length cm).ownBlock = some b → wr.heap.size ≤ b := fun b hb => (World.ownsRow.lt hm b hb).1
        rw [hml2] at hm hgm ⊢
        have hcap : l.take 0 = [] := rfl
        generalize hMK : marksI k 0 l.length = mk at *
        have hbw : ∀ b, (Value.slice ao l.length cap).ownBlock = some b → b < wr.heap.size := fun b hb => (World.ownsRow.lt hown b hb).2
        clear hown hkept hcr hcv ht
        obtain ⟨H, hH⟩ : ∃ H, wr.heap.size = H := ⟨_, rfl⟩
        rw [hH] at hm hgm hbw
        have hmark : ∀ t, t < l.length → (mk.take t ++ l.drop t).set t (mk.getD t 0) = mk.take (t + 1) ++ l.drop (t + 1) := by
          intro t ht
          have e1 : (mk.take t).length = t := by rw [List.length_take]; omega
          rw [List.set_append_right _ _ (by omega), e1, Nat.sub_self, List.drop_eq_getElem_cons ht, List.set_cons_zero, List.take_add_one, List.getElem?_eq_getElem (by omega), List.append_assoc]
          simp [List.getD_eq_getElem?_getD, List.getElem?_eq_getElem (show t < mk.length by omega)]
        have HMK : Hid _ := hmark
        have HB : Hid _ := hbk
        have HGM : Hid _ := hgm
        have HBW : Hid _ := hbw
        have HM1 : Hid _ := hm
        have HK1 : Hid _ := hkept1
        have T1 : Hid _ := t1
        have hlenT : ∀ t, t ≤ l.length → (mk.take t ++ l.drop t).length = l.length := by intro t ht; simp; omega
        have HLT : Hid _ := hlenT
        clear hlenT
        clear hmark hbk hgm hbw hm hkept1 t1 hH b1
        generalize wr = wo at *
        go_wp2_with fail
        go_loopw [4] (fun j wq => ∃ t : Nat, t ≤ l.length ∧ j = .int .i64 t ∧ OwnI wq base (.slice ao l.length cap) (mk.take t ++ l.drop t) ∧ Touch (fun b => (Value.slice ao l.length cap).ownBlock = some b) w1 wq) (fun j _ => l.length - (intOf j).toNat)
        case atStart => exact ⟨0, Nat.zero_le _, rfl, by simpa using hown1, Touch.refl _ _⟩
        case round =>
          clear hown1
          obtain ⟨t, htl, rfl, ho, tt⟩ := hrel
          by_cases htn : t < l.length
          · have tw : Touch (Blocks vs) w wr := T1.out.trans (tt.mono fun b _ hb => HB.out b hb)
            have x1 : wr.cell? ⟨p, 2, none⟩ = some (.slice (some ⟨go, 0, none⟩) N co) := touch_cell tw hc2 hp
            have x2 : wr.cell? ⟨go, k, none⟩ = some (.slice ao l.length cap) := touch_cell tw (HCO.out k _ hv) hgo
            have hmq : OwnI wr H (.slice am l.length cm) mk := by
              refine own_touch HM1.out tt (fun b hb e => ?_)
              have h1 := HGM.out b hb
              have h2 := HBW.out b e
              omega
            obtain ⟨gm, cm', em, _, _⟩ := hmq.form (by omega)
            simp only [Value.slice.injEq] at em
            obtain rfl := em.1
            obtain ⟨gv, cv', ev, _, _⟩ := ho.form (by rw [HLT.out t htl]; omega)
            simp only [Value.slice.injEq] at ev
            obtain rfl := ev.1
            have x3 := hmq.cell (by omega) t (by omega)
            have x4 := ho.cell (HLT.out t htl).symm t (by rw [HLT.out t htl]; exact htn)
            have x5 := ho.frozen (HLT.out t htl).symm t
            have ho' := ho.storeT (HLT.out t htl).symm t (mk.getD t 0) tt rfl
            rw [HMK.out t htn] at ho'
            have HO : Hid _ := ho'
            clear ho' ho tt tw hmq em ev
            have e1 : decide ((t : Int) < (l.length : Int)) = true := by simp; omega
            have e2 : (t : Int) < (l.length : Int) := by omega
            generalize mk.getD t 0 = X at *
            generalize (mk.take t ++ l.drop t).getD t 0 = Y at *
            go_wp2_with fail
            go_region
            all_goals
              go_wp2
              go_roundw
              case rel => exact ⟨t + 1, by omega, by go_num, HO.out.1, HO.out.2.drew⟩
              case measure => simp [intOf]; omega
          · obtain rfl : t = l.length := by omega
            have e1 : decide ((l.length : Int) < (l.length : Int)) = false := by simp
            rw [List.take_of_length_le (by omega), List.drop_length, List.append_nil] at ho
            have tw : Touch (Blocks vs) w wr := T1.out.trans (tt.mono fun b _ hb => HB.out b hb)
            have hkn := HK1.out.turn k _ mk hv tt ho
            rw [HM.out] at hkn
            clear ho tt
            go_wp2
            go_roundw
            case rel => exact ⟨k + 1, by omega, by go_num, hkn, tw⟩
            case measure => simp [intOf]; omega
      · obtain rfl : k = N := by omega
        have d1 : decide ((k : Int) < (k : Int)) = false := by simp
        go_wp2
        go_end0
        exact ⟨rfl, by rw [← HKL.out]; exact hkept, ht⟩

end Go.Proofs.Ytmpmhepaonifpaa
