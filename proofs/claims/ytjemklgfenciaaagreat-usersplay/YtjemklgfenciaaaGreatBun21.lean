/-
  Parts of this proof, one behind the other: BokT2, BokT3, BokT4, BokT5, BokT6, BokT7.
-/
import Derived.Test.YtjemklgfenciaaaGreatBun18
import Derived.Deep.Upon
import Derived.Deep.RegionHeld3
import Derived.Test.YtjemklgfenciaaaGreatBun9

/-
  The book's lists of texts: copyTexts, and what is kept.
-/
namespace Go.Proofs.YtjemklgfenciaaaGreat
open Go.RowKit
set_option linter.unusedVariables false
set_option maxRecDepth 100000
set_option linter.unusedSimpArgs false

theorem seenT_news {w : World} {g n cap : Nat} {l : List ByteArray} (h : Seen w (.slice (some ⟨g, 0, none⟩) n cap) (cellsT l)) : ∀ j u, (cellsT l)[j]? = some u → w.cell? ((⟨g, 0, none⟩ : Addr).add j) = some u := by
  intro j u hj
  rcases h with ⟨h, _⟩ | ⟨g', cap', hv, hc⟩
  · cases h
  · simp only [Value.slice.injEq, Option.some.injEq, Addr.mk.injEq, and_true] at hv
    rw [show (⟨g, 0, none⟩ : Addr).add j = ⟨g', j, none⟩ from by simp [Addr.add, hv.1]; exact fun h => h.symm]
    exact hc j u hj

set_option maxHeartbeats 1000000 in
theorem book_copyTexts (l : List ByteArray) (v : Value) (w : World) (h : Seen w v (cellsT l)) (hl : l.length ≤ 1000000000) :
    Calls Tryz.prog 27 #[v] w fun e w' => (∃ v', OwnT w' w.heap.size v' l ∧ e = .returned v') ∧ Below w.heap.size w w' := by
  obtain ⟨i0, hi0, hz0, hz1, hz2⟩ := info_parts infoT
  have hnil : w.ownsRow w.heap.size 9 1 (.slice none 0 0) 0 [] := World.ownsRow_nil w _ _ _
  rcases h with ⟨rfl, h0⟩ | ⟨g, cap, rfl, hc⟩
  · have : l = [] := by cases l; rfl; simp [cellsT] at h0
    subst this
    have hrun := run_append_nothing (P := Tryz.prog) w 47 47 47 9 i0 Tryz.underlying47 hi0 none 0 0 (Nat.le_refl _) (.slice none 0 0) (Src.ofNil w Tryz.underlying47 0)
    go_enter Tryz.func27, Tryz.ntmps27
    go_wp2
    go_ret
    exact ⟨⟨_, hnil, rfl⟩, Below.refl _ _⟩
  · have hn := seenT_news (Or.inr ⟨g, cap, rfl, hc⟩)
    rw [cellsT_len]
    have hcl := cellsT_len l
    generalize hk : l.length = n at *
    go_enter Tryz.func27, Tryz.ntmps27
    go_wp2_with (first | (at_builtin; refine wpList_append_two _ rfl (.const (.slice none 0 0)) (.tmp 3) 47 rfl w.heap.size 9 i0 (.string ⟨#[]⟩) 1 16 Tryz.underlying47 hi0 hz0 hz1 hz2 rfl (by decide) (.slice none 0 0) 0 [] rfl hnil ⟨g, 0, none⟩ n cap (cellsT l) rfl (by omega) hn (cellsT_one _) (by unfold maxLen; omega) (by omega) (Nat.le_refl _) ?_))
    intro v' w2 hown2 hgrow2 hat
    obtain ⟨ao, c', rfl⟩ : ∃ ao c', v' = .slice ao n c' := by
      have := (own_seen hown2).form
      rw [hcl] at this
      exact this
    go_wp2
    go_ret
    exact ⟨⟨_, by unfold OwnT; rw [hk]; exact hown2, rfl⟩, (Below.refl _ _).grown hgrow2 (Nat.le_refl _) (fun j hj => by cases hj)⟩

/-- Lists that are kept, each in a row of its own. -/
structure KeptT (w : World) (base : Nat) (vs : List Value) (ls : List (List ByteArray)) : Prop where
  len : vs.length = ls.length
  each : ∀ (i : Nat) (v : Value) (l : List ByteArray), vs[i]? = some v → ls[i]? = some l → OwnT w base v l
  apart : Parted vs
theorem KeptT.touch {S : Nat → Prop} {w w' : World} {base : Nat} {vs : List Value} {ls : List (List ByteArray)} (h : KeptT w base vs ls) (ht : Touch S w w') (hn : ∀ k, Blocks vs k → ¬ S k) : KeptT w' base vs ls :=
  ⟨h.len, fun i v l hv hl => own_touch (h.each i v l hv hl) ht (fun k hk => hn k ⟨v, List.mem_of_getElem? hv, hk⟩), h.apart⟩
theorem KeptT.below {w w' : World} {base : Nat} {vs : List Value} {ls : List (List ByteArray)} (h : KeptT w base vs ls) (hb : Below w.heap.size w w') : KeptT w' base vs ls :=
  h.touch (Touch.of_below (S := fun _ => False) hb) (fun _ _ h => h)
theorem KeptT.lt {w : World} {base : Nat} {vs : List Value} {ls : List (List ByteArray)} (h : KeptT w base vs ls) {k : Nat} (hk : Blocks vs k) : base ≤ k ∧ k < w.heap.size := by
  obtain ⟨v, hv, e⟩ := hk
  obtain ⟨i, hi⟩ := List.getElem?_of_mem hv
  have hlt : i < ls.length := by rw [← h.len]; exact (List.getElem?_eq_some_iff.1 hi).1
  exact World.ownsRow.lt (h.each i v ls[i] hi (List.getElem?_eq_getElem hlt)) k e
theorem KeptT.seen {w : World} {base : Nat} {vs : List Value} {ls : List (List ByteArray)} (h : KeptT w base vs ls) (i : Nat) (v : Value) (l : List ByteArray) (hv : vs[i]? = some v) (hl : ls[i]? = some l) : Seen w v (cellsT l) := own_seen (h.each i v l hv hl)
/-- One of them is told anew. -/
theorem KeptT.turn {w w' : World} {base : Nat} {vs : List Value} {ls : List (List ByteArray)} (h : KeptT w base vs ls) (i : Nat) (v : Value) (l' : List ByteArray) (hv : vs[i]? = some v) (ht : Touch (fun k => v.ownBlock = some k) w w') (ho : OwnT w' base v l') : KeptT w' base vs (ls.set i l') := by
  refine ⟨by rw [List.length_set]; exact h.len, fun j u l hu hl => ?_, h.apart⟩
  have hlt : i < ls.length := by rw [← h.len]; exact (List.getElem?_eq_some_iff.1 hv).1
  by_cases hij : i = j
  · subst hij
    rw [List.getElem?_set_self hlt] at hl
    rw [hv] at hu
    obtain rfl := Option.some.inj hu
    obtain rfl := Option.some.inj hl
    exact ho
  · rw [List.getElem?_set_ne hij] at hl
    exact own_touch (h.each j u l hu hl) ht (fun k hk hk' => h.apart i j v u hij hv hu k hk' hk)
/-- The first i of them marked. -/
def markToT (ls : List (List ByteArray)) (i : Nat) : List (List ByteArray) := ls.mapIdx (fun j l => if j < i then marksT j 0 l.length else l)
theorem markToT_len (ls : List (List ByteArray)) (i : Nat) : (markToT ls i).length = ls.length := by simp [markToT]
theorem markToT_zero (ls : List (List ByteArray)) : markToT ls 0 = ls := by
  apply List.ext_getElem?
  intro j
  simp [markToT, List.getElem?_mapIdx]
theorem markToT_at (ls : List (List ByteArray)) (i j : Nat) (l : List ByteArray) (h : ls[j]? = some l) : (markToT ls i)[j]? = some (if j < i then marksT j 0 l.length else l) := by
  simp [markToT, List.getElem?_mapIdx, h]
theorem markToT_succ (ls : List (List ByteArray)) (i : Nat) (l : List ByteArray) (h : ls[i]? = some l) : (markToT ls i).set i (marksT i 0 l.length) = markToT ls (i + 1) := by
  have hlt : i < ls.length := (List.getElem?_eq_some_iff.1 h).1
  apply List.ext_getElem?
  intro j
  by_cases hij : i = j
  · subst hij
    rw [List.getElem?_set_self (by rw [markToT_len]; exact hlt), markToT_at ls (i + 1) i l h, if_pos (by omega)]
  · rw [List.getElem?_set_ne hij]
    cases hj : ls[j]? with
    | none => simp [markToT, List.getElem?_mapIdx, hj]
    | some m =>
      rw [markToT_at ls i j m hj, markToT_at ls (i + 1) j m hj]
      by_cases h1 : j < i
      · rw [if_pos h1, if_pos (by omega)]
      · rw [if_neg h1, if_neg (by omega)]

end Go.Proofs.YtjemklgfenciaaaGreat

/-
  The book's lists of texts: putTexts marks every one of them.
-/
namespace Go.Proofs.YtjemklgfenciaaaGreat
open Go.RowKit
set_option linter.unusedVariables false
set_option maxRecDepth 100000
set_option linter.unusedSimpArgs false

theorem OwnT.storeT {w : World} {base g n cap : Nat} {l : List ByteArray} {S : Nat → Prop} {w0 : World} (h : OwnT w base (.slice (some ⟨g, 0, none⟩) n cap) l) (hn : n = l.length) (j : Nat) (x : ByteArray) (ht : Touch S w0 w) (hS : S g) : OwnT (w.setCell ⟨g, j, none⟩ (.string x)) base (.slice (some ⟨g, 0, none⟩) n cap) (l.set j x) ∧ Touch S w0 (w.setCell ⟨g, j, none⟩ (.string x)) :=
  ⟨h.store hn j x, ht.set (Or.inl hS) _⟩

set_option maxRecDepth 100000 in
set_option maxHeartbeats 1000000 in
theorem book_putTexts (p base : Nat) (F : List Value) (vo : Value) (vs : List Value) (ls : List (List ByteArray)) (w : World) (hF : ∃ q, RowIs w p q F) (h2 : F[0]? = some vo) (hvo : Seen w vo vs) (hk : KeptT w base vs ls) (hp : ¬ Blocks vs p) (hov : ∀ k, vo.ownBlock = some k → ¬ Blocks vs k) (hN : vs.length ≤ 1000) (hl : ∀ (i : Nat) (l : List ByteArray), ls[i]? = some l → l.length ≤ 1000000) :
    Calls Tryz.prog 44 #[.pointer (some ⟨p, 0, none⟩)] w fun e w' => e = .returned (.tuple #[]) ∧ KeptT w' base vs (markToT ls ls.length) ∧ Touch (Blocks vs) w w' := by
  obtain ⟨q, hrow⟩ := hF
  have hc2 : w.cell? ⟨p, 0, none⟩ = some vo := hrow.cellAt h2
  have hkl := hk.len
  have HKL : Hid (vs.length = ls.length) := hk.len
  clear hrow h2
  have HK0 : Hid (KeptT w base vs (markToT ls 0)) := by show KeptT _ _ _ _; rw [markToT_zero]; exact hk
  clear hk
  by_cases h0 : vs.length = 0
  · obtain ⟨ao, cap, rfl⟩ := hvo.form
    rw [h0] at hc2 hkl
    rw [← hkl]
    clear hkl hN hl hov HKL hvo h0
    go_enter Tryz.func44, Tryz.ntmps44
    go_wp2_with fail
    go_loopw [2] (fun i wr => i = .int .i64 0 ∧ wr = w) (fun i _ => 0)
    case atStart => exact ⟨rfl, rfl⟩
    case round =>
      obtain ⟨rfl, rfl⟩ := hrel
      go_wp2
      go_end0
      exact ⟨rfl, HK0.out, Touch.refl _ _⟩
  · obtain ⟨go, co, rfl, hco⟩ := seen_cell hvo (by omega)
    have HCO : Hid _ := hco
    have hgo : ¬ Blocks vs go := hov go rfl
    clear hco hvo hov hkl
    obtain ⟨N, hNN⟩ : ∃ N, vs.length = N := ⟨_, rfl⟩
    rw [hNN] at hc2 hN h0 HKL
    have HNN : Hid (vs.length = N) := hNN
    clear hNN
    go_enter Tryz.func44, Tryz.ntmps44
    go_wp2_with fail
    go_loopw [2] (fun i wr => ∃ k : Nat, k ≤ N ∧ i = .int .i64 k ∧ KeptT wr base vs (markToT ls k) ∧ Touch (Blocks vs) w wr) (fun i _ => N - (intOf i).toNat)
    case atStart => exact ⟨0, Nat.zero_le _, rfl, HK0.out, Touch.refl _ _⟩
    case round =>
      clear HK0
      obtain ⟨k, hk, rfl, hkept, ht⟩ := hrel
      have hcr : wr.cell? ⟨p, 0, none⟩ = some (.slice (some ⟨go, 0, none⟩) N co) := touch_cell ht hc2 hp
      by_cases hlt : k < N
      · obtain ⟨v, hv⟩ : ∃ v, vs[k]? = some v := ⟨vs[k]'(by rw [HNN.out]; exact hlt), List.getElem?_eq_getElem (by rw [HNN.out]; exact hlt)⟩
        obtain ⟨l, hll⟩ : ∃ l, ls[k]? = some l := ⟨ls[k]'(by rw [← HKL.out]; exact hlt), List.getElem?_eq_getElem (by rw [← HKL.out]; exact hlt)⟩
        have hln := hl k l hll
        have HL : Hid _ := hl
        clear hl
        have hml : (markToT ls k)[k]? = some l := by rw [markToT_at ls k k l hll, if_neg (by omega)]
        have hown := hkept.each k v l hv hml
        have hcv : wr.cell? ⟨go, k, none⟩ = some v := touch_cell ht (HCO.out k v hv) hgo
        have HM : Hid ((markToT ls k).set k (marksT k 0 l.length) = markToT ls (k + 1)) := markToT_succ ls k l hll
        have d1 : decide ((k : Int) < (N : Int)) = true := by simp; omega
        have d2 : (k : Int) < (N : Int) := by omega
        obtain ⟨ao, cap, rfl⟩ := hown.shape
        have PM : Hid (∀ w, Calls Tryz.prog 82 #[.int .i64 k, .int .i64 0, .int .i64 l.length] w fun e w' => (∃ v, OwnT w' w.heap.size v (marksT k 0 l.length) ∧ e = .returned v) ∧ Below w.heap.size w w') := fun w => book_markTexts k 0 l.length w (by omega) (by omega) (by omega)
        have hbk : ∀ b, (Value.slice ao l.length cap).ownBlock = some b → Blocks vs b := fun b hb => ⟨_, List.mem_of_getElem? hv, hb⟩
        have hml2 := marksT_len k 0 l.length
        clear hml
        go_wp2_with fail
        with_reducible refine (PM.out _).mono ?_
        rintro e w1 ⟨⟨vm, hm, rfl⟩, b1⟩
        have hown1 : OwnT w1 base (.slice ao l.length cap) l := hown.below b1
        have hkept1 := hkept.below b1
        have t1 : Touch (Blocks vs) w w1 := ht.trans (Touch.of_below b1)
        obtain ⟨am, cm, rfl⟩ := hm.shape
        have hgm : ∀ b, (Value.slice am (marksT k 0 l.length).length cm).ownBlock = some b → wr.heap.size ≤ b := fun b hb => (World.ownsRow.lt hm b hb).1
        rw [hml2] at hm hgm ⊢
        have hcap : l.take 0 = [] := rfl
        generalize hMK : marksT k 0 l.length = mk at *
        have hbw : ∀ b, (Value.slice ao l.length cap).ownBlock = some b → b < wr.heap.size := fun b hb => (World.ownsRow.lt hown b hb).2
        clear hown hkept hcr hcv ht
        obtain ⟨H, hH⟩ : ∃ H, wr.heap.size = H := ⟨_, rfl⟩
        rw [hH] at hm hgm hbw
        have hmark : ∀ t, t < l.length → (mk.take t ++ l.drop t).set t (mk.getD t ⟨#[]⟩) = mk.take (t + 1) ++ l.drop (t + 1) := by
          intro t ht
          have e1 : (mk.take t).length = t := by rw [List.length_take]; omega
          rw [List.set_append_right _ _ (by omega), e1, Nat.sub_self, List.drop_eq_getElem_cons ht, List.set_cons_zero, List.take_add_one, List.getElem?_eq_getElem (by omega), List.append_assoc]
          simp [List.getD_eq_getElem?_getD, List.getElem?_eq_getElem (show t < mk.length by omega)]
        have HMK : Hid _ := hmark
        have HB : Hid _ := hbk
        have HGM : Hid _ := hgm
        have HBW : Hid _ := hbw
        have HM1 : Hid _ := hm
        have HK1 : Hid _ := hkept1
        have T1 : Hid _ := t1
        have hlenT : ∀ t, t ≤ l.length → (mk.take t ++ l.drop t).length = l.length := by intro t ht; simp; omega
        have HLT : Hid _ := hlenT
        clear hlenT
        clear hmark hbk hgm hbw hm hkept1 t1 hH b1
        generalize wr = wo at *
        go_wp2_with fail
        go_loopw [4] (fun j wq => ∃ t : Nat, t ≤ l.length ∧ j = .int .i64 t ∧ OwnT wq base (.slice ao l.length cap) (mk.take t ++ l.drop t) ∧ Touch (fun b => (Value.slice ao l.length cap).ownBlock = some b) w1 wq) (fun j _ => l.length - (intOf j).toNat)
        case atStart => exact ⟨0, Nat.zero_le _, rfl, by simpa using hown1, Touch.refl _ _⟩
        case round =>
          clear hown1
          obtain ⟨t, htl, rfl, ho, tt⟩ := hrel
          by_cases htn : t < l.length
          · have tw : Touch (Blocks vs) w wr := T1.out.trans (tt.mono fun b _ hb => HB.out b hb)
            have x1 : wr.cell? ⟨p, 0, none⟩ = some (.slice (some ⟨go, 0, none⟩) N co) := touch_cell tw hc2 hp
            have x2 : wr.cell? ⟨go, k, none⟩ = some (.slice ao l.length cap) := touch_cell tw (HCO.out k _ hv) hgo
            have hmq : OwnT wr H (.slice am l.length cm) mk := by
              refine own_touch HM1.out tt (fun b hb e => ?_)
              have h1 := HGM.out b hb
              have h2 := HBW.out b e
              omega
            obtain ⟨gm, cm', em, _, _⟩ := hmq.form (by omega)
            simp only [Value.slice.injEq] at em
            obtain rfl := em.1
            obtain ⟨gv, cv', ev, _, _⟩ := ho.form (by rw [HLT.out t htl]; omega)
            simp only [Value.slice.injEq] at ev
            obtain rfl := ev.1
            have x3 := hmq.cell (by omega) t (by omega)
            have x4 := ho.cell (HLT.out t htl).symm t (by rw [HLT.out t htl]; exact htn)
            have x5 := ho.frozen (HLT.out t htl).symm t
            have ho' := ho.storeT (HLT.out t htl).symm t (mk.getD t ⟨#[]⟩) tt rfl
            rw [HMK.out t htn] at ho'
            have HO : Hid _ := ho'
            clear ho' ho tt tw hmq em ev
            have e1 : decide ((t : Int) < (l.length : Int)) = true := by simp; omega
            have e2 : (t : Int) < (l.length : Int) := by omega
            generalize mk.getD t ⟨#[]⟩ = X at *
            generalize (mk.take t ++ l.drop t).getD t ⟨#[]⟩ = Y at *
            go_wp2_with fail
            go_region
            all_goals
              go_wp2
              go_roundw
              case rel => exact ⟨t + 1, by omega, by go_num, HO.out.1, HO.out.2.drew⟩
              case measure => simp [intOf]; omega
          · obtain rfl : t = l.length := by omega
            have e1 : decide ((l.length : Int) < (l.length : Int)) = false := by simp
            rw [List.take_of_length_le (by omega), List.drop_length, List.append_nil] at ho
            have tw : Touch (Blocks vs) w wr := T1.out.trans (tt.mono fun b _ hb => HB.out b hb)
            have hkn := HK1.out.turn k _ mk hv tt ho
            rw [HM.out] at hkn
            clear ho tt
            go_wp2
            go_roundw
            case rel => exact ⟨k + 1, by omega, by go_num, hkn, tw⟩
            case measure => simp [intOf]; omega
      · obtain rfl : k = N := by omega
        have d1 : decide ((k : Int) < (k : Int)) = false := by simp
        go_wp2
        go_end0
        exact ⟨rfl, by rw [← HKL.out]; exact hkept, ht⟩

end Go.Proofs.YtjemklgfenciaaaGreat

/-
  The book's lists of texts: stillTexts and markedTexts look at them.
-/
namespace Go.Proofs.YtjemklgfenciaaaGreat
open Go.RowKit
set_option linter.unusedVariables false
set_option maxRecDepth 100000
set_option linter.unusedSimpArgs false

theorem OwnT.seen {w : World} {base : Nat} {v : Value} {l : List ByteArray} (h : OwnT w base v l) : Seen w v (cellsT l) := own_seen h

set_option maxRecDepth 100000 in
set_option maxHeartbeats 1000000 in
theorem book_stillTexts (p : Nat) (F : List Value) (vo wo : Value) (vs ws : List Value) (ls : List (List ByteArray)) (w : World) (hF : ∃ q, RowIs w p q F) (h2 : F[0]? = some vo) (h3 : F[1]? = some wo) (hvo : Seen w vo vs) (hwo : Seen w wo ws) (hv : vs.length = ls.length) (hw : ws.length = ls.length)
    (hsv : ∀ (i : Nat) (v : Value) (l : List ByteArray), vs[i]? = some v → ls[i]? = some l → Seen w v (cellsT l)) (hsw : ∀ (i : Nat) (v : Value) (l : List ByteArray), ws[i]? = some v → ls[i]? = some l → Seen w v (cellsT l)) (hN : vs.length ≤ 1000) (hl : ∀ (i : Nat) (l : List ByteArray), ls[i]? = some l → l.length ≤ 1000000000) :
    Calls Tryz.prog 36 #[.pointer (some ⟨p, 0, none⟩)] w fun e w' => e = .returned (.bool true) ∧ Below w.heap.size w w' := by
  obtain ⟨q, hrow⟩ := hF
  have hc2 : w.cell? ⟨p, 0, none⟩ = some vo := hrow.cellAt h2
  have hc3 : w.cell? ⟨p, 1, none⟩ = some wo := hrow.cellAt h3
  clear hrow h2 h3
  by_cases h0 : vs.length = 0
  · obtain ⟨ao, cap, rfl⟩ := hvo.form
    rw [h0] at hc2
    clear hvo hwo hv hw hsv hsw hN hl h0 hc3
    go_enter Tryz.func36, Tryz.ntmps36
    go_wp2_with fail
    go_loopw [3] (fun i wr => i = .int .i64 0 ∧ wr = w) (fun i _ => 0)
    case atStart => exact ⟨rfl, rfl⟩
    case round =>
      obtain ⟨rfl, rfl⟩ := hrel
      go_wp2
      go_ret
      exact ⟨rfl, Below.refl _ _⟩
  · obtain ⟨go, co, rfl, hco⟩ := seen_cell hvo (by omega)
    obtain ⟨gw, cw, rfl, hcw⟩ := seen_cell hwo (by omega)
    have HCO : Hid _ := hco
    have HCW : Hid _ := hcw
    have HSV : Hid _ := hsv
    have HSW : Hid _ := hsw
    have HL : Hid _ := hl
    clear hco hcw hsv hsw hl hvo hwo
    obtain ⟨N, hNN⟩ : ∃ N, ls.length = N := ⟨_, rfl⟩
    have HNN : Hid (ls.length = N) := hNN
    have HV : Hid (vs.length = N) := by show vs.length = N; omega
    have HW : Hid (ws.length = N) := by show ws.length = N; omega
    rw [HV.out] at hc2 hN h0
    rw [HW.out] at hc3
    clear hNN hv hw
    go_enter Tryz.func36, Tryz.ntmps36
    go_wp2_with fail
    go_loopw [3] (fun i wr => ∃ k : Nat, k ≤ N ∧ i = .int .i64 k ∧ Below w.heap.size w wr) (fun i _ => N - (intOf i).toNat)
    case atStart => exact ⟨0, Nat.zero_le _, rfl, Below.refl _ _⟩
    case round =>
      obtain ⟨k, hk, rfl, b⟩ := hrel
      have y2 := cell_belowB b hc2
      have y3 := cell_belowB b hc3
      by_cases hlt : k < N
      · obtain ⟨v, hv⟩ : ∃ v, vs[k]? = some v := ⟨vs[k]'(by rw [HV.out]; exact hlt), List.getElem?_eq_getElem (by rw [HV.out]; exact hlt)⟩
        obtain ⟨u, hu⟩ : ∃ u, ws[k]? = some u := ⟨ws[k]'(by rw [HW.out]; exact hlt), List.getElem?_eq_getElem (by rw [HW.out]; exact hlt)⟩
        obtain ⟨l, hll⟩ : ∃ l, ls[k]? = some l := ⟨ls[k]'(by rw [HNN.out]; exact hlt), List.getElem?_eq_getElem (by rw [HNN.out]; exact hlt)⟩
        have s1 := (HSV.out k v l hv hll).below b
        have s2 := (HSW.out k u l hu hll).below b
        have y4 := cell_belowB b (HCO.out k v hv)
        have y5 := cell_belowB b (HCW.out k u hu)
        have hll' := HL.out k l hll
        have d1 : decide ((k : Int) < (N : Int)) = true := by simp; omega
        have d2 : (k : Int) < (N : Int) := by omega
        have HS1 : Hid _ := s1
        have HS2 : Hid _ := s2
        have PS : Hid (∀ w2, Below wr.heap.size wr w2 → Calls Tryz.prog 74 #[v, u] w2 fun e w' => e = .returned (.bool true) ∧ Below w2.heap.size w2 w') := fun w2 h => book_sameTexts l v u w2 (s1.below h) (s2.below h) (by omega)
        clear s1 s2 HS1 HS2 hll' hv hu hll
        go_wp2_with fail
        have bw : Below wr.heap.size wr wr.drew := (Below.refl _ _).drew
        replace b := b.drew
        go_region_held3 (fun w' => w'.cell? ⟨p, 0, none⟩ = some (.slice (some ⟨go, 0, none⟩) N co) ∧ w'.cell? ⟨p, 1, none⟩ = some (.slice (some ⟨gw, 0, none⟩) N cw) ∧ w'.cell? ⟨go, k, none⟩ = some v ∧ w'.cell? ⟨gw, k, none⟩ = some u) (exact ⟨cell_belowB bw y2, cell_belowB bw y3, cell_belowB bw y4, cell_belowB bw y5⟩) (first | (go_at_call 74; (with_reducible refine (PS.out _ bw).mono ?_); rintro e w5 ⟨rfl, b5⟩; replace bw := bel_chain8 bw b5; replace b := bel_chain8 b b5; clear b5))
        all_goals
          go_wp2
          go_roundw
          case rel => exact ⟨k + 1, by omega, by go_num, b⟩
          case measure => simp [intOf]; omega
      · obtain rfl : k = N := by omega
        have d1 : decide ((k : Int) < (k : Int)) = false := by simp
        go_wp2
        go_ret
        exact ⟨rfl, b⟩

set_option maxRecDepth 100000 in
set_option maxHeartbeats 1000000 in
theorem book_markedTexts (vo : Value) (vs : List Value) (ns : List Nat) (w : World) (hvo : Seen w vo vs) (hv : vs.length = ns.length) (hs : ∀ (i : Nat) (v : Value) (n : Nat), vs[i]? = some v → ns[i]? = some n → Seen w v (cellsT (marksT i 0 n))) (hN : vs.length ≤ 1000) (hl : ∀ (i n : Nat), ns[i]? = some n → n ≤ 1000000000) :
    Calls Tryz.prog 57 #[vo] w fun e w' => e = .returned (.bool true) ∧ Below w.heap.size w w' := by
  by_cases h0 : vs.length = 0
  · obtain ⟨ao, cap, rfl⟩ := hvo.form
    rw [h0]
    clear hvo hv hs hN hl h0
    go_enter Tryz.func57, Tryz.ntmps57
    go_wp2_with fail
    go_loopw [3] (fun i wr => i = .int .i64 0 ∧ wr = w) (fun i _ => 0)
    case atStart => exact ⟨rfl, rfl⟩
    case round =>
      obtain ⟨rfl, rfl⟩ := hrel
      go_wp2
      go_ret
      exact ⟨rfl, Below.refl _ _⟩
  · obtain ⟨go, co, rfl, hco⟩ := seen_cell hvo (by omega)
    have HCO : Hid _ := hco
    have HS : Hid _ := hs
    have HL : Hid _ := hl
    clear hco hs hl hvo
    obtain ⟨N, hNN⟩ : ∃ N, ns.length = N := ⟨_, rfl⟩
    have HNN : Hid (ns.length = N) := hNN
    have HV : Hid (vs.length = N) := by show vs.length = N; omega
    rw [HV.out] at hN h0 ⊢
    clear hNN hv
    go_enter Tryz.func57, Tryz.ntmps57
    go_wp2_with fail
    go_loopw [3] (fun i wr => ∃ k : Nat, k ≤ N ∧ i = .int .i64 k ∧ Below w.heap.size w wr) (fun i _ => N - (intOf i).toNat)
    case atStart => exact ⟨0, Nat.zero_le _, rfl, Below.refl _ _⟩
    case round =>
      obtain ⟨k, hk, rfl, b⟩ := hrel
      by_cases hlt : k < N
      · obtain ⟨v, hv⟩ : ∃ v, vs[k]? = some v := ⟨vs[k]'(by rw [HV.out]; exact hlt), List.getElem?_eq_getElem (by rw [HV.out]; exact hlt)⟩
        obtain ⟨n, hn⟩ : ∃ n, ns[k]? = some n := ⟨ns[k]'(by rw [HNN.out]; exact hlt), List.getElem?_eq_getElem (by rw [HNN.out]; exact hlt)⟩
        have s1 := (HS.out k v n hv hn).below b
        have y4 := cell_belowB b (HCO.out k v hv)
        have hnn := HL.out k n hn
        have hml := marksT_len k 0 n
        obtain ⟨ao, cap, rfl⟩ := s1.form
        rw [cellsT_len, hml] at s1 y4
        have d1 : decide ((k : Int) < (N : Int)) = true := by simp; omega
        have d2 : (k : Int) < (N : Int) := by omega
        have PM : Hid (∀ w, Calls Tryz.prog 82 #[.int .i64 k, .int .i64 0, .int .i64 n] w fun e w' => (∃ v, OwnT w' w.heap.size v (marksT k 0 n) ∧ e = .returned v) ∧ Below w.heap.size w w') := fun w => book_markTexts k 0 n w (by omega) (by omega) hnn
        have PS : Hid (∀ u w2, Below wr.heap.size wr w2 → Seen w2 u (cellsT (marksT k 0 n)) → Calls Tryz.prog 74 #[.slice ao n cap, u] w2 fun e w' => e = .returned (.bool true) ∧ Below w2.heap.size w2 w') := fun u w2 h hu => book_sameTexts (marksT k 0 n) _ u w2 (s1.below h) hu (by omega)
        clear s1 hnn hv hn hml
        go_wp2_with fail
        have bw : Below wr.heap.size wr wr.drew := (Below.refl _ _).drew
        replace b := b.drew
        go_region_held3 (fun w' => w'.cell? ⟨go, k, none⟩ = some (.slice ao n cap)) (exact cell_belowB bw y4) (first | (go_at_call 82; (with_reducible refine (PM.out _).mono ?_); rintro e w5 ⟨⟨um, hum, rfl⟩, b5⟩; replace bw := bel_chain8 bw b5; replace b := bel_chain8 b b5; clear b5) | (go_at_call 74; (with_reducible refine (PS.out _ _ bw hum.seen).mono ?_); rintro e w6 ⟨rfl, b5⟩; replace bw := bel_chain8 bw b5; replace b := bel_chain8 b b5; clear b5))
        all_goals
          go_wp2
          go_roundw
          case rel => exact ⟨k + 1, by omega, by go_num, b⟩
          case measure => simp [intOf]; omega
      · obtain rfl : k = N := by omega
        have d1 : decide ((k : Int) < (k : Int)) = false := by simp
        go_wp2
        go_ret
        exact ⟨rfl, b⟩

end Go.Proofs.YtjemklgfenciaaaGreat

/-
  The book's lists of texts: growTexts lays more behind each of them.
-/
namespace Go.Proofs.YtjemklgfenciaaaGreat
open Go.RowKit
set_option linter.unusedVariables false
set_option maxRecDepth 100000
set_option linter.unusedSimpArgs false

theorem infoSlT : (Tryz.prog.info? 47).map (fun i => (i.zero, i.size, i.bytes)) = some (some (.slice none 0 0), 1, 24) := by kernel_rfl

/-- What growTexts has told of the first k lists: each lies in the old one's block, or in a new one. -/
structure GrownT (w wr : World) (vs : List Value) (ns : List Nat) (k : Nat) (out : Value) (os : List Value) : Prop where
  len : os.length = k
  own : wr.ownsRow w.heap.size 47 1 out k os
  seen : ∀ (j : Nat) (o : Value) (n : Nat), os[j]? = some o → ns[j]? = some n → Seen wr o (cellsT (marksT j 0 (n + 72)))
  lies : ∀ (j : Nat) (o : Value), os[j]? = some o → ∀ b, o.ownBlock = some b → ((∃ v, vs[j]? = some v ∧ v.ownBlock = some b) ∨ w.heap.size ≤ b) ∧ out.ownBlock ≠ some b
  old : ∀ (j : Nat) (v : Value) (n : Nat), vs[j]? = some v → ns[j]? = some n → Seen wr v (cellsT (marksT j 0 n))

/-- One more list is grown and told. -/
theorem GrownT.next {w wo w3 w5 : World} {vs os : List Value} {ns : List Nat} {k n base : Nat} {out out' v v' : Value} {ob : Obj} (hG : GrownT w wo vs ns k out os) (hv : vs[k]? = some v) (hn : ns[k]? = some n) (hP : Parted vs) (hvs : ∀ b, Blocks vs b → b < w.heap.size) (htw : Touch (Blocks vs) w wo)
    (T : Touch (fun b => v.ownBlock = some b) wo w3) (sv : Seen w3 v (cellsT (marksT k 0 n))) (so : Seen w3 v' (cellsT (marksT k 0 (n + 72)))) (hb' : v'.ownBlock = v.ownBlock ∨ ∃ b, v'.ownBlock = some b ∧ wo.heap.size ≤ b) (hb3 : ∀ b, v'.ownBlock = some b → b < w3.heap.size)
    (ho : w5.ownsRow w.heap.size 47 1 out' (k + 1) (os ++ [v'])) (hg : (w3.alloc ob).grownBy w5 out.ownBlock) (hat : out'.ownBlock = out.ownBlock ∨ out'.ownBlock = some (w3.heap.size + 1) ∧ (w3.alloc ob).grownBy w5 none) :
    GrownT w w5 vs ns (k + 1) out' (os ++ [v']) ∧ Touch (Blocks vs) w w5 ∧ Touch (fun b => v.ownBlock = some b ∨ out.ownBlock = some b) wo w5 := by
  have hlt : ∀ b, out.ownBlock = some b → w.heap.size ≤ b ∧ b < wo.heap.size := fun b hb => World.ownsRow.lt hG.own b hb
  have hzz := htw.size
  have hz3 := T.size
  have hal : (w3.alloc ob).heap.size = w3.heap.size + 1 := by simp
  have T5 : Touch (fun b => v.ownBlock = some b ∨ out.ownBlock = some b) wo w5 := ((T.mono fun b _ h => Or.inl h).alloc ob).grown hg (fun b hb => Or.inl (Or.inr hb))
  have A5 : Touch (fun b => out.ownBlock = some b) w3 w5 := ((Touch.refl _ w3).alloc ob).grown hg (fun b hb => Or.inl hb)
  have hvb : ∀ b, v.ownBlock = some b → b < w.heap.size := fun b hb => hvs b ⟨v, List.mem_of_getElem? hv, hb⟩
  have hov : ∀ b, v'.ownBlock = some b → out.ownBlock ≠ some b := by
    intro b hb he
    have h1 := hlt b he
    rcases hb' with h | ⟨c, hc, hle⟩
    · have := hvb b (h ▸ hb); omega
    · rw [hb] at hc
      have := Option.some.inj hc
      omega
  have hout : ∀ b, b < w3.heap.size → out.ownBlock ≠ some b → out'.ownBlock ≠ some b := by
    intro b hb hne he
    rcases hat with h | ⟨h, _⟩
    · exact hne (h ▸ he)
    · rw [he] at h
      have := Option.some.inj h
      omega
  refine ⟨⟨by rw [List.length_append, hG.len]; rfl, ho, ?_, ?_, ?_⟩, ?_, T5⟩
  · intro j o m hj hm
    rcases Nat.lt_or_ge j k with h | h
    · rw [List.getElem?_append_left (by rw [hG.len]; exact h)] at hj
      refine (hG.seen j o m hj hm).touch T5 (fun b hb hS => ?_)
      obtain ⟨h1, h2⟩ := hG.lies j o hj b hb
      rcases hS with hS | hS
      · rcases h1 with ⟨u, hu, hub⟩ | h1
        · exact hP j k u v (by omega) hu hv b hub hS
        · have := hvb b hS; omega
      · exact h2 hS
    · have hjk : j = k := by
        have := (List.getElem?_eq_some_iff.1 hj).1
        rw [List.length_append, hG.len] at this
        simp at this
        omega
      subst hjk
      rw [hn] at hm
      obtain rfl := Option.some.inj hm
      rw [List.getElem?_append_right (by rw [hG.len]; omega), hG.len, Nat.sub_self] at hj
      obtain rfl := Option.some.inj hj
      exact so.touch A5 (fun b hb hS => hov b hb hS)
  · intro j o hj b hb
    rcases Nat.lt_or_ge j k with h | h
    · rw [List.getElem?_append_left (by rw [hG.len]; exact h)] at hj
      obtain ⟨h1, h2⟩ := hG.lies j o hj b hb
      refine ⟨h1, hout b ?_ h2⟩
      rcases h1 with ⟨u, hu, hub⟩ | h1
      · have := hvs b ⟨u, List.mem_of_getElem? hu, hub⟩; omega
      · have hjn : j < ns.length := by have := (List.getElem?_eq_some_iff.1 hn).1; omega
        have hs := hG.seen j o ns[j] hj (List.getElem?_eq_getElem hjn)
        obtain ⟨g, cap, rfl, hc⟩ := hs.full (by rw [cellsT_len, marksT_len]; omega)
        have hgb : g = b := by simpa [Value.ownBlock] using hb
        have hlt0 := World.block_lt_of_cell? wo ⟨g, 0, none⟩ (hc 0 _ (cellsT_at _ 0 (by rw [marksT_len]; omega)))
        have : g < wo.heap.size := hlt0
        omega
    · have hjk : j = k := by
        have := (List.getElem?_eq_some_iff.1 hj).1
        rw [List.length_append, hG.len] at this
        simp at this
        omega
      subst hjk
      rw [List.getElem?_append_right (by rw [hG.len]; omega), hG.len, Nat.sub_self] at hj
      obtain rfl := Option.some.inj hj
      refine ⟨?_, hout b (hb3 b hb) (hov b hb)⟩
      rcases hb' with h | ⟨c, hc, hle⟩
      · exact Or.inl ⟨v, hv, h ▸ hb⟩
      · rw [hb] at hc
        have := Option.some.inj hc
        exact Or.inr (by omega)
  · intro j u m hu hm
    by_cases hjk : j = k
    · subst hjk
      rw [hv] at hu
      obtain rfl := Option.some.inj hu
      rw [hn] at hm
      obtain rfl := Option.some.inj hm
      exact sv.touch A5 (fun b hb hS => by have h1 := hvb b hb; have h2 := hlt b hS; omega)
    · refine (hG.old j u m hu hm).touch T5 (fun b hb hS => ?_)
      rcases hS with hS | hS
      · exact hP j k u v hjk hu hv b hb hS
      · have h1 := hvs b ⟨u, List.mem_of_getElem? hu, hb⟩
        have h2 := hlt b hS
        omega
  · refine ((htw.trans (T.mono fun b _ hb => ⟨v, List.mem_of_getElem? hv, hb⟩)).alloc ob).grown hg (fun b hb => Or.inr (hlt b hb).1)

end Go.Proofs.YtjemklgfenciaaaGreat

/-
  The book's lists of texts: the contract of growTexts.
-/
namespace Go.Proofs.YtjemklgfenciaaaGreat
open Go.RowKit
set_option linter.unusedVariables false
set_option maxRecDepth 100000
set_option linter.unusedSimpArgs false

theorem ownT_news {w : World} {base g n cap : Nat} {l : List ByteArray} (h : OwnT w base (.slice (some ⟨g, 0, none⟩) n cap) l) : ∀ j u, (cellsT l)[j]? = some u → w.cell? ((⟨g, 0, none⟩ : Addr).add j) = some u := seenT_news h.seen

set_option maxRecDepth 100000 in
set_option maxHeartbeats 1000000 in
theorem book_growTexts (p base : Nat) (F : List Value) (vo : Value) (vs : List Value) (ns : List Nat) (w : World) (hF : ∃ q, RowIs w p q F) (h2 : F[0]? = some vo) (hvo : Seen w vo vs) (hv : vs.length = ns.length)
    (hk : ∀ (i : Nat) (v : Value) (n : Nat), vs[i]? = some v → ns[i]? = some n → OwnT w base v (marksT i 0 n)) (hP : Parted vs) (hp : ¬ Blocks vs p) (hov : ∀ k, vo.ownBlock = some k → ¬ Blocks vs k) (hN : vs.length ≤ 1000) (hl : ∀ (i n : Nat), ns[i]? = some n → n ≤ 1000000) (hbase : base ≤ w.heap.size) :
    Calls Tryz.prog 50 #[.pointer (some ⟨p, 0, none⟩)] w fun e w' => (∃ out os, GrownT w w' vs ns vs.length out os ∧ e = .returned out) ∧ Touch (Blocks vs) w w' := by
  obtain ⟨q, hrow⟩ := hF
  have hc2 : w.cell? ⟨p, 0, none⟩ = some vo := hrow.cellAt h2
  clear hrow h2
  have HG0 : Hid (GrownT w w vs ns 0 (.slice none 0 0) []) := ⟨rfl, World.ownsRow_nil w _ _ _, fun j o n h => by simp at h, fun j o h => by simp at h, fun j v n hv hn => (hk j v n hv hn).seen⟩
  by_cases h0 : vs.length = 0
  · obtain ⟨ao, cap, rfl⟩ := hvo.form
    rw [h0] at hc2
    rw [h0]
    clear hvo hv hk hP hp hov hN hl h0 hbase
    go_enter Tryz.func50, Tryz.ntmps50
    go_wp2_with fail
    go_loopw [3, 4] (fun o i wr => o = .slice none 0 0 ∧ i = .int .i64 0 ∧ wr = w) (fun _ _ _ => 0)
    case atStart => exact ⟨rfl, rfl, rfl⟩
    case round =>
      obtain ⟨rfl, rfl, rfl⟩ := hrel
      go_wp2
      go_ret
      exact ⟨⟨_, _, HG0.out, rfl⟩, Touch.refl _ _⟩
  · obtain ⟨i0, hi0, hz0, hz1, hz2⟩ := info_parts infoT
    obtain ⟨iS, hiS, hy0, hy1, hy2⟩ := info_parts infoSlT
    obtain ⟨go, co, rfl, hco⟩ := seen_cell hvo (by omega)
    have HCO : Hid _ := hco
    have hgo : ¬ Blocks vs go := hov go rfl
    have hvs : ∀ b, Blocks vs b → b < w.heap.size := by
      rintro b ⟨v, hm, e⟩
      obtain ⟨i, hi⟩ := List.getElem?_of_mem hm
      have hlt : i < ns.length := by rw [← hv]; exact (List.getElem?_eq_some_iff.1 hi).1
      exact (World.ownsRow.lt (hk i v ns[i] hi (List.getElem?_eq_getElem hlt)) b e).2
    have HVS : Hid _ := hvs
    have HPT : Hid _ := hP
    have HK : Hid _ := hk
    have HL : Hid _ := hl
    clear hco hvo hov hvs hP hk hl
    obtain ⟨N, hNN⟩ : ∃ N, vs.length = N := ⟨_, rfl⟩
    have HNN : Hid (vs.length = N) := hNN
    have HNS : Hid (ns.length = N) := by show ns.length = N; omega
    rw [hNN] at hc2 hN h0 ⊢
    clear hNN hv
    go_enter Tryz.func50, Tryz.ntmps50
    go_wp2_with fail
    go_loopw [3, 4] (fun o i wr => ∃ (k : Nat) (os : List Value), k ≤ N ∧ i = .int .i64 k ∧ GrownT w wr vs ns k o os ∧ Touch (Blocks vs) w wr ∧ ∀ (j : Nat) (v : Value) (n : Nat), k ≤ j → vs[j]? = some v → ns[j]? = some n → OwnT wr base v (marksT j 0 n)) (fun _ i _ => N - (intOf i).toNat)
    case atStart => exact ⟨0, [], Nat.zero_le _, rfl, HG0.out, Touch.refl _ _, fun j v n _ h1 h2 => HK.out j v n h1 h2⟩
    case round =>
      clear HG0
      obtain ⟨k, os, hk, rfl, hG, htw, hrest⟩ := hrel
      have hcr : wr.cell? ⟨p, 0, none⟩ = some (.slice (some ⟨go, 0, none⟩) N co) := touch_cell htw hc2 hp
      obtain ⟨ao3, c3, rfl⟩ : ∃ ao c, u3 = .slice ao k c := by
        have := (own_seen hG.own).form
        rw [hG.len] at this
        exact this
      by_cases hlt : k < N
      · obtain ⟨v, hv⟩ : ∃ v, vs[k]? = some v := ⟨vs[k]'(by rw [HNN.out]; exact hlt), List.getElem?_eq_getElem (by rw [HNN.out]; exact hlt)⟩
        obtain ⟨n, hn⟩ : ∃ n, ns[k]? = some n := ⟨ns[k]'(by rw [HNS.out]; exact hlt), List.getElem?_eq_getElem (by rw [HNS.out]; exact hlt)⟩
        have hnn := HL.out k n hn
        have hown := hrest k v n (Nat.le_refl _) hv hn
        have hcv : wr.cell? ⟨go, k, none⟩ = some v := touch_cell htw (HCO.out k v hv) hgo
        have d1 : decide ((k : Int) < (N : Int)) = true := by simp; omega
        have d2 : (k : Int) < (N : Int) := by omega
        have hb0 : base ≤ wr.heap.size := Nat.le_trans hbase htw.size
        have PM : Hid (∀ (a m : Nat) (w : World), a ≤ 100000000 → m ≤ 100 → Calls Tryz.prog 82 #[.int .i64 k, .int .i64 a, .int .i64 m] w fun e w' => (∃ v, OwnT w' w.heap.size v (marksT k a m) ∧ e = .returned v) ∧ Below w.heap.size w w') := fun a m w ha hm => book_markTexts k a m w (by omega) (by omega) (by omega)
        have hvlt : ∀ b, v.ownBlock = some b → b < wr.heap.size := fun b hb => (World.ownsRow.lt hown b hb).2
        have HVL : Hid _ := hvlt
        have HG : Hid _ := hG
        have HTW : Hid _ := htw
        have HR : Hid _ := hrest
        clear hvlt hG htw hrest
        obtain ⟨ao, cap, rfl⟩ := hown.shape
        rw [marksT_len] at hown hcv HVL hv
        go_wp2_with fail
        generalize wr = wo at *
        go_loopw [5, 6] (fun l i wq => ∃ t : Nat, t ≤ 12 ∧ i = .int .i64 t ∧ OwnT wq base l (marksT k 0 (n + t)) ∧ (l.ownBlock = (Value.slice ao n cap).ownBlock ∨ ∃ b, l.ownBlock = some b ∧ wo.heap.size ≤ b) ∧ Seen wq (.slice ao n cap) (cellsT (marksT k 0 n)) ∧ Touch (fun b => (Value.slice ao n cap).ownBlock = some b) wo wq) (fun _ i _ => 12 - (intOf i).toNat)
        case atStart => exact ⟨0, by omega, rfl, hown, Or.inl rfl, hown.seen, Touch.refl _ _⟩
        case round =>
          clear hown hcr hcv
          obtain ⟨s, hs, rfl, ho, hu, sv, tt⟩ := hrel
          obtain ⟨ao5, c5, rfl⟩ := ho.shape
          obtain ⟨m, hm⟩ : ∃ m, n + s = m := ⟨_, rfl⟩
          have hmm : m ≤ 1000100 := by omega
          rw [marksT_len, hm] at ho hu ⊢
          have hbr : base ≤ wr.heap.size := Nat.le_trans hb0 tt.size
          by_cases hs12 : s < 12
          · have PM1 : Hid (∀ w, Calls Tryz.prog 82 #[.int .i64 k, .int .i64 m, .int .i64 1] w fun e w' => (∃ v, OwnT w' w.heap.size v (marksT k m 1) ∧ e = .returned v) ∧ Below w.heap.size w w') := fun w => PM.out m 1 w (by omega) (by omega)
            have HM : Hid (n + s = m) := hm
            have e1 : decide ((s : Int) < 12) = true := by simp; omega
            clear hm
            have HHU : Hid _ := hu
            have HSV : Hid _ := sv
            have HTT : Hid _ := tt
            clear hu sv tt
            go_wp2_with fail
            with_reducible refine (PM1.out _).mono ?_
            rintro e w2 ⟨⟨vm, hvm, rfl⟩, b2⟩
            obtain ⟨gm, cm, rfl, _, _⟩ := hvm.form (by rw [marksT_len]; omega)
            rw [marksT_len] at hvm ⊢
            have ho2 : w2.ownsRow base 9 1 (.slice ao5 m c5) m (cellsT (marksT k 0 m)) := by have := ho.below b2; unfold OwnT at this; rwa [marksT_len] at this
            have hnw := ownT_news hvm
            have hl1 : (cellsT (marksT k m 1)).length = 1 * 1 := by rw [cellsT_len, marksT_len]
            have hb2 : base ≤ w2.heap.size := Nat.le_trans hbr b2.size
            go_wp2_with (first | (at_builtin; refine wpList_append_two _ rfl (.tmp 27) (.tmp 31) 47 rfl base 9 i0 (.string ⟨#[]⟩) 1 16 Tryz.underlying47 hi0 hz0 hz1 hz2 rfl (by decide) (.slice ao5 m c5) m (cellsT (marksT k 0 m)) rfl ho2 ⟨gm, 0, none⟩ 1 cm (cellsT (marksT k m 1)) rfl hl1 hnw (cellsT_one _) (by unfold maxLen; omega) (by omega) hb2 ?_))
            intro v' w3 ho3 hg3 hat3
            have em := HM.out
            have ho3' : w3.ownsRow base 9 1 v' (m + 1) (cellsT (marksT k 0 n) ++ cellsT (marksT k (0 + n) (s + 1))) := by
              rw [← cellsT_append, marksT_app, show n + (s + 1) = m + 1 from by omega, ← marksT_app k 0 m 1, cellsT_append, Nat.zero_add]
              exact ho3
            obtain ⟨r1, r2, r3⟩ := grow_step b2 HSV.out HHU.out HVL.out HTT.out ho3' hg3 hat3
            have ho4 : OwnT w3 base v' (marksT k 0 (n + (s + 1))) := by
              unfold OwnT
              rw [marksT_len, show n + (s + 1) = m + 1 from by omega, ← marksT_app k 0 m 1, cellsT_append, Nat.zero_add]
              exact ho3
            clear ho3' ho3 em
            obtain ⟨ao', c', rfl⟩ := ho4.shape
            go_wp2
            go_roundw
            case rel => exact ⟨s + 1, by omega, by go_num, ho4, r2, r1, r3⟩
            case measure => simp [intOf]; omega
          · obtain rfl : s = 12 := by omega
            have PM1 : Hid (∀ w, Calls Tryz.prog 82 #[.int .i64 k, .int .i64 m, .int .i64 60] w fun e w' => (∃ v, OwnT w' w.heap.size v (marksT k m 60) ∧ e = .returned v) ∧ Below w.heap.size w w') := fun w => PM.out m 60 w (by omega) (by omega)
            have HM : Hid (n + 12 = m) := hm
            clear hm
            have HHU : Hid _ := hu
            have HSV : Hid _ := sv
            have HTT : Hid _ := tt
            clear hu sv tt
            go_wp2_with fail
            with_reducible refine (PM1.out _).mono ?_
            rintro e w2 ⟨⟨vm, hvm, rfl⟩, b2⟩
            obtain ⟨gm, cm, rfl, _, _⟩ := hvm.form (by rw [marksT_len]; omega)
            rw [marksT_len] at hvm ⊢
            have ho2 : w2.ownsRow base 9 1 (.slice ao5 m c5) m (cellsT (marksT k 0 m)) := by have := ho.below b2; unfold OwnT at this; rwa [marksT_len] at this
            have hnw := ownT_news hvm
            have hl1 : (cellsT (marksT k m 60)).length = 60 * 1 := by rw [cellsT_len, marksT_len]
            have hb2 : base ≤ w2.heap.size := Nat.le_trans hbr b2.size
            go_wp2_with (first | (at_builtin; refine wpList_append_two _ rfl (.tmp 34) (.tmp 38) 47 rfl base 9 i0 (.string ⟨#[]⟩) 1 16 Tryz.underlying47 hi0 hz0 hz1 hz2 rfl (by decide) (.slice ao5 m c5) m (cellsT (marksT k 0 m)) rfl ho2 ⟨gm, 0, none⟩ 60 cm (cellsT (marksT k m 60)) rfl hl1 hnw (cellsT_one _) (by unfold maxLen; omega) (by omega) hb2 ?_))
            intro v' w3 ho3 hg3 hat3
            have em := HM.out
            have ho3' : w3.ownsRow base 9 1 v' (m + 60) (cellsT (marksT k 0 n) ++ cellsT (marksT k (0 + n) 72)) := by
              rw [← cellsT_append, marksT_app, show n + 72 = m + 60 from by omega, ← marksT_app k 0 m 60, cellsT_append, Nat.zero_add]
              exact ho3
            obtain ⟨r1, r2, r3⟩ := grow_step b2 HSV.out HHU.out HVL.out HTT.out ho3' hg3 hat3
            have ho4 : OwnT w3 base v' (marksT k 0 (n + 72)) := by
              unfold OwnT
              rw [marksT_len, show n + 72 = m + 60 from by omega, ← marksT_app k 0 m 60, cellsT_append, Nat.zero_add]
              exact ho3
            clear ho3' ho3 em
            have hw3 : w.heap.size ≤ w3.heap.size := Nat.le_trans HTW.out.size r3.size
            have hoo : w3.ownsRow w.heap.size 47 1 (.slice ao3 k c3) k os := own_touch HG.out.own r3 (fun b hb hS => by
              have h1 := (World.ownsRow.lt HG.out.own b hb).1
              have h2 := HVS.out b ⟨_, List.mem_of_getElem? hv, hS⟩
              omega)
            obtain ⟨av, cv, rfl⟩ : ∃ a c, v' = .slice a (m + 60) c := by
              have := ho4.shape
              rw [marksT_len, show n + 72 = m + 60 from by have := HM.out; omega] at this
              exact this
            have R1 : Hid _ := r1
            have R2 : Hid _ := r2
            have R3 : Hid _ := r3
            have H4 : Hid _ := ho4
            clear r1 r2 r3 ho4 hat3 hg3 ho2 hvm hnw hl1 b2 ho
            go_wp2_with (first | (at_builtin; refine wpList_append_two _ rfl (.tmp 33) (.tmp 40) 37 rfl w.heap.size 47 iS (.slice none 0 0) 1 24 Tryz.underlying37 hiS hy0 hy1 hy2 rfl (by decide) (.slice ao3 k c3) k os rfl (hoo.alloc _) ⟨w3.heap.size, 0, none⟩ 1 1 [.slice av (m + 60) cv] rfl rfl (cell_one_new w3 (.slice av (m + 60) cv) 47) (by intro u hu; simp at hu; rw [hu]; rfl) (by unfold maxLen; omega) (by omega) (by simp; omega) ?_))
            intro out' w5 ho5 hg5 hat5
            have hb3 : ∀ b, (Value.slice av (m + 60) cv).ownBlock = some b → b < w3.heap.size := fun b hb => (World.ownsRow.lt H4.out b hb).2
            obtain ⟨q1, q2, q3⟩ := GrownT.next (base := base) HG.out hv hn HPT.out HVS.out HTW.out R3.out R1.out (OwnT.seen H4.out) R2.out hb3 ho5 hg5 hat5
            obtain ⟨ao', c', rfl⟩ : ∃ ao c, out' = .slice ao (k + 1) c := by
              have := (own_seen q1.own).form
              rw [q1.len] at this
              exact this
            have hrest : ∀ (j : Nat) (u : Value) (i : Nat), k + 1 ≤ j → vs[j]? = some u → ns[j]? = some i → OwnT w5 base u (marksT j 0 i) := by
              intro j u i hj hu hi
              refine own_touch (HR.out j u i (by omega) hu hi) q3 (fun b hb hS => ?_)
              rcases hS with hS | hS
              · exact HPT.out j k u _ (by omega) hu hv b hb hS
              · have h1 := HVS.out b ⟨u, List.mem_of_getElem? hu, hb⟩
                have h2 := (World.ownsRow.lt HG.out.own b hS).1
                omega
            clear ho5 hg5 hat5 hoo hb3
            go_wp2
            go_roundw
            case rel => exact ⟨k + 1, _, by omega, by go_num, q1, q2, hrest⟩
            case measure => simp [intOf]; omega
      · obtain rfl : k = N := by omega
        have d1 : decide ((k : Int) < (k : Int)) = false := by simp
        go_wp2
        go_ret
        exact ⟨⟨_, _, hG, rfl⟩, htw⟩

end Go.Proofs.YtjemklgfenciaaaGreat

/-
  A book that keeps lists of texts alone: Apart tells true.
-/
namespace Go.Proofs.YtjemklgfenciaaaGreat
open Go.RowKit
set_option linter.unusedVariables false
set_option maxRecDepth 100000
set_option linter.unusedSimpArgs false

/-- The book's row: lists of texts alone. -/
def rowT (vo wo : Value) : List Value := [vo, wo, .slice none 0 0, .slice none 0 0, .slice none 0 0, .slice none 0 0, .slice none 0 0, .slice none 0 0, .slice none 0 0, .slice none 0 0, .slice none 0 0, .slice none 0 0, .slice none 0 0, .slice none 0 0]
/-- A book that keeps the lists vs, which hold ls, and copies of them. -/
structure BookT (w : World) (base p : Nat) (vo wo : Value) (vs ws : List Value) (ls : List (List ByteArray)) : Prop where
  row : RowIs w p 45 (rowT vo wo)
  here : base ≤ p
  ownV : w.ownsRow base 47 1 vo vs.length vs
  ownW : w.ownsRow base 47 1 wo ws.length ws
  lenV : vs.length = ls.length
  lenW : ws.length = ls.length
  eachV : ∀ (i : Nat) (v : Value) (l : List ByteArray), vs[i]? = some v → ls[i]? = some l → OwnT w base v l
  eachW : ∀ (i : Nat) (v : Value) (l : List ByteArray), ws[i]? = some v → ls[i]? = some l → OwnT w base v l
  apart : (vo :: wo :: (vs ++ ws)).Pairwise Apart2
  off : ∀ v ∈ vo :: wo :: (vs ++ ws), v.ownBlock ≠ some p
theorem BookT.below {w w' : World} {base p : Nat} {vo wo : Value} {vs ws : List Value} {ls : List (List ByteArray)} (h : BookT w base p vo wo vs ws ls) (hb : Below w.heap.size w w') : BookT w' base p vo wo vs ws ls :=
  ⟨h.row.below hb h.row.lt, h.here, own_touch h.ownV (Touch.of_below (S := fun _ => False) hb) (fun _ _ x => x), own_touch h.ownW (Touch.of_below (S := fun _ => False) hb) (fun _ _ x => x), h.lenV, h.lenW, fun i v l h1 h2 => (h.eachV i v l h1 h2).below hb, fun i v l h1 h2 => (h.eachW i v l h1 h2).below hb, h.apart, h.off⟩

set_option maxRecDepth 100000 in
set_option maxHeartbeats 4000000 in
theorem book_apartT (base p : Nat) (vo wo : Value) (vs ws : List Value) (ls : List (List ByteArray)) (w : World) (h : BookT w base p vo wo vs ws ls) (hN : vs.length ≤ 1000) (hl : ∀ (i : Nat) (l : List ByteArray), ls[i]? = some l → l.length ≤ 1000000) (hbase : base ≤ w.heap.size) :
    Calls Tryz.prog 22 #[.pointer (some ⟨p, 0, none⟩)] w fun e w' => e = .returned (.bool true) ∧ Below base w w' := by
  have hpv : ¬ Blocks vs p := fun ⟨v, hm, he⟩ => h.off v (by simp [hm]) he
  have hpw : ∀ k, Blocks vs k → k ≠ p := fun k hk e => hpv (e ▸ hk)
  have hparts := List.pairwise_cons.1 h.apart
  have hov : ∀ k, vo.ownBlock = some k → ¬ Blocks vs k := fun k hk ⟨v, hm, he⟩ => hparts.1 v (by simp [hm]) k hk he
  have hP : Parted vs := parted_of ((List.pairwise_append.1 (List.pairwise_cons.1 hparts.2).2).1)
  have hkept : KeptT w base vs ls := ⟨h.lenV, h.eachV, hP⟩
  have hbk : ∀ k, Blocks vs k → base ≤ k := fun k hk => (hkept.lt hk).1
  obtain ⟨ns, hns⟩ : ∃ ns : List Nat, ns = ls.map List.length := ⟨_, rfl⟩
  have hnl : vs.length = ns.length := by rw [hns, List.length_map]; exact h.lenV
  have hnsl : ∀ (i n : Nat), ns[i]? = some n → ∃ l, ls[i]? = some l ∧ l.length = n := by
    intro i n hi
    rw [hns, List.getElem?_map] at hi
    cases hll : ls[i]? with
    | none => rw [hll] at hi; cases hi
    | some l => rw [hll] at hi; exact ⟨l, rfl, Option.some.inj hi⟩
  have SI : Hid (∀ w1, Below w.heap.size w w1 → Calls Tryz.prog 36 #[.pointer (some ⟨p, 0, none⟩)] w1 fun e w' => e = .returned (.bool true) ∧ Below w1.heap.size w1 w') := fun w1 hb => by
    have h1 := h.below hb
    exact book_stillTexts p _ vo wo vs ws ls w1 ⟨_, h1.row⟩ rfl rfl (own_seen h1.ownV) (own_seen h1.ownW) h.lenV h.lenW (fun i v l a b => (h1.eachV i v l a b).seen) (fun i v l a b => (h1.eachW i v l a b).seen) hN (fun i l hi => by have := hl i l hi; omega)
  have PI : Hid (∀ w1, Below w.heap.size w w1 → Calls Tryz.prog 44 #[.pointer (some ⟨p, 0, none⟩)] w1 fun e w' => e = .returned (.tuple #[]) ∧ KeptT w' base vs (markToT ls ls.length) ∧ Touch (Blocks vs) w1 w') := fun w1 hb => by
    have h1 := h.below hb
    exact book_putTexts p base _ vo vs ls w1 ⟨_, h1.row⟩ rfl (own_seen h1.ownV) (hkept.below hb) hpv hov hN hl
  have GI : Hid (∀ w1, Touch (Blocks vs) w w1 → KeptT w1 base vs (markToT ls ls.length) → Calls Tryz.prog 50 #[.pointer (some ⟨p, 0, none⟩)] w1 fun e w' => (∃ out os, GrownT w1 w' vs ns vs.length out os ∧ e = .returned out) ∧ Touch (Blocks vs) w1 w') := fun w1 ht hk1 => by
    have hrow : RowIs w1 p 45 (rowT vo wo) := by
      show w1.heap[p]? = _
      rw [ht.block p h.row.lt hpv]; exact h.row
    refine book_growTexts p base _ vo vs ns w1 ⟨_, hrow⟩ rfl ((own_seen h.ownV).touch ht hov) hnl ?_ hP hpv hov hN ?_ (Nat.le_trans hbase ht.size)
    · intro i v n hv hn
      obtain ⟨l, hll, rfl⟩ := hnsl i n hn
      have hlt := (List.getElem?_eq_some_iff.1 hll).1
      have := hk1.each i v _ hv (markToT_at ls ls.length i l hll)
      rwa [if_pos hlt] at this
    · intro i n hn
      obtain ⟨l, hll, rfl⟩ := hnsl i n hn
      exact hl i l hll
  have MI : Hid (∀ (v : Value) (us : List Value) (d : Nat) w1, d ≤ 100 → Seen w1 v us → us.length = vs.length → (∀ (i : Nat) (u : Value) (n : Nat), us[i]? = some u → ns[i]? = some n → Seen w1 u (cellsT (marksT i 0 (n + d)))) → Calls Tryz.prog 57 #[v] w1 fun e w' => e = .returned (.bool true) ∧ Below w1.heap.size w1 w') := fun v us d w1 hd hv hu hs => by
    refine book_markedTexts v us (ns.map (· + d)) w1 hv (by rw [List.length_map]; omega) ?_ (by omega) ?_
    · intro i u n hu hn
      rw [List.getElem?_map] at hn
      cases hnn : ns[i]? with
      | none => rw [hnn] at hn; cases hn
      | some m =>
        rw [hnn] at hn
        obtain rfl := Option.some.inj hn
        exact hs i u m hu hnn
    · intro i n hn
      rw [List.getElem?_map] at hn
      cases hnn : ns[i]? with
      | none => rw [hnn] at hn; cases hn
      | some m =>
        rw [hnn] at hn
        obtain rfl := Option.some.inj hn
        obtain ⟨l, hll, hle⟩ := hnsl i m hnn
        have := hl i l hll
        show m + d ≤ _
        omega
  have c2 : w.cell? ⟨p, 2, none⟩ = some (.slice none 0 0) := h.row.cellAt rfl
  have c4 : w.cell? ⟨p, 4, none⟩ = some (.slice none 0 0) := h.row.cellAt rfl
  have c6 : w.cell? ⟨p, 6, none⟩ = some (.slice none 0 0) := h.row.cellAt rfl
  have c8 : w.cell? ⟨p, 8, none⟩ = some (.slice none 0 0) := h.row.cellAt rfl
  have c10 : w.cell? ⟨p, 10, none⟩ = some (.slice none 0 0) := h.row.cellAt rfl
  have c12 : w.cell? ⟨p, 12, none⟩ = some (.slice none 0 0) := h.row.cellAt rfl
  have c0 : w.cell? ⟨p, 0, none⟩ = some vo := h.row.cellAt rfl
  obtain ⟨avo, cvo, rfl⟩ : ∃ a c, vo = .slice a vs.length c := (own_seen h.ownV).form
  have HB : Hid _ := h
  have HBK : Hid _ := hbk
  have HOV : Hid _ := hov
  have HPV : Hid _ := hpv
  have SV : Hid _ := own_seen h.ownV
  have b : Below w.heap.size w w := Below.refl _ _
  clear h hparts hP hkept hnl hnsl hns hpw hov hbk hl
  go_enter Tryz.func22, Tryz.ntmps22
  go_wp2_with fail
  with_reducible refine (SI.out _ b).mono ?_
  rintro e w1 ⟨rfl, b'⟩
  replace b := bel_chain8 b b'
  replace c2 := cell_belowB b' c2
  replace c4 := cell_belowB b' c4
  replace c6 := cell_belowB b' c6
  replace c8 := cell_belowB b' c8
  replace c10 := cell_belowB b' c10
  replace c12 := cell_belowB b' c12
  replace c0 := cell_belowB b' c0
  clear b'
  go_wp2_with fail
  with_reducible refine (book_stillInts_none p _ c2).mono ?_
  rintro e w' ⟨rfl, rfl⟩
  go_wp2_with fail
  with_reducible refine (book_stillRules_none p _ c4).mono ?_
  rintro e w' ⟨rfl, rfl⟩
  go_wp2_with fail
  with_reducible refine (book_stillNotes_none p _ c6).mono ?_
  rintro e w' ⟨rfl, rfl⟩
  go_wp2_with fail
  with_reducible refine (book_stillItems_none p _ c8).mono ?_
  rintro e w' ⟨rfl, rfl⟩
  go_wp2_with fail
  with_reducible refine (book_stillCommands_none p _ c10).mono ?_
  rintro e w' ⟨rfl, rfl⟩
  go_wp2_with fail
  with_reducible refine (book_stillReplies_none p _ c12).mono ?_
  rintro e w' ⟨rfl, rfl⟩
  have t : Touch (Blocks vs) w w1 := Touch.of_below b
  go_wp2_with fail
  with_reducible refine (book_putReplies_none p _ c12).mono ?_
  rintro e w' ⟨rfl, rfl⟩
  go_wp2_with fail
  with_reducible refine (PI.out _ b).mono ?_
  rintro e w2 ⟨rfl, hk2, t'⟩
  replace t := t.trans t'
  replace c0 := touch_cell t' c0 HPV.out
  replace c2 := touch_cell t' c2 HPV.out
  replace c4 := touch_cell t' c4 HPV.out
  replace c6 := touch_cell t' c6 HPV.out
  replace c8 := touch_cell t' c8 HPV.out
  replace c10 := touch_cell t' c10 HPV.out
  replace c12 := touch_cell t' c12 HPV.out
  clear b t'
  go_wp2_with fail
  with_reducible refine (book_putInts_none p _ c2).mono ?_
  rintro e w' ⟨rfl, rfl⟩
  go_wp2_with fail
  with_reducible refine (book_putRules_none p _ c4).mono ?_
  rintro e w' ⟨rfl, rfl⟩
  go_wp2_with fail
  with_reducible refine (book_putNotes_none p _ c6).mono ?_
  rintro e w' ⟨rfl, rfl⟩
  go_wp2_with fail
  with_reducible refine (book_putItems_none p _ c8).mono ?_
  rintro e w' ⟨rfl, rfl⟩
  go_wp2_with fail
  with_reducible refine (book_putCommands_none p _ c10).mono ?_
  rintro e w' ⟨rfl, rfl⟩
  go_wp2_with fail
  with_reducible refine (GI.out _ t hk2).mono ?_
  rintro e w3 ⟨⟨out, os, hG, rfl⟩, t'⟩
  replace c0 := touch_cell t' c0 HPV.out
  replace c2 := touch_cell t' c2 HPV.out
  replace c4 := touch_cell t' c4 HPV.out
  replace c6 := touch_cell t' c6 HPV.out
  replace c8 := touch_cell t' c8 HPV.out
  replace c10 := touch_cell t' c10 HPV.out
  replace c12 := touch_cell t' c12 HPV.out
  have sv : Seen w3 (.slice avo vs.length cvo) vs := Seen.touch (Seen.touch SV.out t HOV.out) t' HOV.out
  replace t := t.trans t'
  have bb : Below base w w3 := t.below HBK.out hbase
  obtain ⟨ao, co, rfl⟩ : ∃ a c, out = .slice a vs.length c := by
    have := (own_seen hG.own).form
    rw [hG.len] at this
    exact this
  have so := own_seen hG.own
  have hs1 := hG.seen
  have hs2 := hG.old
  have hgl := hG.len
  have M1 : Hid _ := fun w4 (h4 : Below w3.heap.size w3 w4) => MI.out _ os 72 w4 (by omega) (so.below h4) hgl (fun i u n a b => (hs1 i u n a b).below h4)
  have M2 : Hid _ := fun w4 (h4 : Below w3.heap.size w3 w4) => MI.out (.slice avo vs.length cvo) vs 0 w4 (by omega) (sv.below h4) rfl (fun i u n a b => (hs2 i u n a b).below h4)
  clear so hs1 hs2 hgl sv hG t' t
  have b4 : Below w3.heap.size w3 w3 := Below.refl _ _
  go_wp2_with fail
  with_reducible refine (book_growInts_none p _ c2).mono ?_
  rintro e w' ⟨rfl, rfl⟩
  go_wp2_with fail
  with_reducible refine (book_growRules_none p _ c4).mono ?_
  rintro e w' ⟨rfl, rfl⟩
  go_wp2_with fail
  with_reducible refine (book_growNotes_none p _ c6).mono ?_
  rintro e w' ⟨rfl, rfl⟩
  go_wp2_with fail
  with_reducible refine (book_growItems_none p _ c8).mono ?_
  rintro e w' ⟨rfl, rfl⟩
  go_wp2_with fail
  with_reducible refine (book_growCommands_none p _ c10).mono ?_
  rintro e w' ⟨rfl, rfl⟩
  go_wp2_with fail
  with_reducible refine (book_growReplies_none p _ c12).mono ?_
  rintro e w' ⟨rfl, rfl⟩
  clear SI PI GI MI HB SV HPV HOV HBK
  go_wp2_with fail
  with_reducible refine (M1.out _ b4).mono ?_
  rintro e w4 ⟨rfl, b'⟩
  replace b4 := bel_chain8 b4 b'
  replace c0 := cell_belowB b' c0
  replace c2 := cell_belowB b' c2
  replace c4 := cell_belowB b' c4
  replace c6 := cell_belowB b' c6
  replace c8 := cell_belowB b' c8
  replace c10 := cell_belowB b' c10
  replace c12 := cell_belowB b' c12
  clear b'
  go_wp2_with fail
  with_reducible refine (M2.out _ b4).mono ?_
  rintro e w4 ⟨rfl, b'⟩
  replace b4 := bel_chain8 b4 b'
  replace c0 := cell_belowB b' c0
  replace c2 := cell_belowB b' c2
  replace c4 := cell_belowB b' c4
  replace c6 := cell_belowB b' c6
  replace c8 := cell_belowB b' c8
  replace c10 := cell_belowB b' c10
  replace c12 := cell_belowB b' c12
  clear b'
  go_wp2_with fail
  with_reducible refine (book_markedInts_none _).mono ?_
  rintro e w' ⟨rfl, rfl⟩
  go_wp2_with fail
  with_reducible refine (book_markedInts_none _).mono ?_
  rintro e w' ⟨rfl, rfl⟩
  go_wp2_with fail
  with_reducible refine (book_markedRules_none _).mono ?_
  rintro e w' ⟨rfl, rfl⟩
  go_wp2_with fail
  with_reducible refine (book_markedRules_none _).mono ?_
  rintro e w' ⟨rfl, rfl⟩
  go_wp2_with fail
  with_reducible refine (book_markedNotes_none _).mono ?_
  rintro e w' ⟨rfl, rfl⟩
  go_wp2_with fail
  with_reducible refine (book_markedNotes_none _).mono ?_
  rintro e w' ⟨rfl, rfl⟩
  go_wp2_with fail
  with_reducible refine (book_markedItems_none _).mono ?_
  rintro e w' ⟨rfl, rfl⟩
  go_wp2_with fail
  with_reducible refine (book_markedItems_none _).mono ?_
  rintro e w' ⟨rfl, rfl⟩
  go_wp2_with fail
  with_reducible refine (book_markedCommands_none _).mono ?_
  rintro e w' ⟨rfl, rfl⟩
  go_wp2_with fail
  with_reducible refine (book_markedCommands_none _).mono ?_
  rintro e w' ⟨rfl, rfl⟩
  go_wp2_with fail
  with_reducible refine (book_markedReplies_none _).mono ?_
  rintro e w' ⟨rfl, rfl⟩
  go_wp2_with fail
  with_reducible refine (book_markedReplies_none _).mono ?_
  rintro e w' ⟨rfl, rfl⟩
  go_wp2
  go_ret
  exact ⟨rfl, bb.trans (b4.mono (Nat.le_trans hbase bb.size))⟩

end Go.Proofs.YtjemklgfenciaaaGreat
