/-
  A book that keeps lists of whole numbers alone: Apart tells true.
-/
import Derived.Test.YtmpmhepaonifpaaBokI6
import Derived.Test.YtmpmhepaonifpaaBokN
namespace Go.Proofs.Ytmpmhepaonifpaa
open Go.RowKit
set_option linter.unusedVariables false
set_option maxRecDepth 100000
set_option linter.unusedSimpArgs false

/-- The book's row: lists of whole numbers alone. -/
def rowI (vo wo : Value) : List Value := [.slice none 0 0, .slice none 0 0, vo, wo, .slice none 0 0, .slice none 0 0, .slice none 0 0, .slice none 0 0, .slice none 0 0, .slice none 0 0, .slice none 0 0, .slice none 0 0, .slice none 0 0, .slice none 0 0]
/-- A book that keeps the lists vs, which hold ls, and copies of them. -/
structure BookI (w : World) (base p : Nat) (vo wo : Value) (vs ws : List Value) (ls : List (List Int)) : Prop where
  row : RowIs w p 43 (rowI vo wo)
  here : base ≤ p
  ownV : w.ownsRow base 22 1 vo vs.length vs
  ownW : w.ownsRow base 22 1 wo ws.length ws
  lenV : vs.length = ls.length
  lenW : ws.length = ls.length
  eachV : ∀ (i : Nat) (v : Value) (l : List Int), vs[i]? = some v → ls[i]? = some l → OwnI w base v l
  eachW : ∀ (i : Nat) (v : Value) (l : List Int), ws[i]? = some v → ls[i]? = some l → OwnI w base v l
  apart : (vo :: wo :: (vs ++ ws)).Pairwise Apart2
  off : ∀ v ∈ vo :: wo :: (vs ++ ws), v.ownBlock ≠ some p
theorem BookI.below {w w' : World} {base p : Nat} {vo wo : Value} {vs ws : List Value} {ls : List (List Int)} (h : BookI w base p vo wo vs ws ls) (hb : Below w.heap.size w w') : BookI w' base p vo wo vs ws ls :=
  ⟨h.row.below hb h.row.lt, h.here, own_touch h.ownV (Touch.of_below (S := fun _ => False) hb) (fun _ _ x => x), own_touch h.ownW (Touch.of_below (S := fun _ => False) hb) (fun _ _ x => x), h.lenV, h.lenW, fun i v l h1 h2 => (h.eachV i v l h1 h2).below hb, fun i v l h1 h2 => (h.eachW i v l h1 h2).below hb, h.apart, h.off⟩

set_option maxRecDepth 100000 in
set_option maxHeartbeats 4000000 in
theorem book_apartI (base p : Nat) (vo wo : Value) (vs ws : List Value) (ls : List (List Int)) (w : World) (h : BookI w base p vo wo vs ws ls) (hN : vs.length ≤ 1000) (hl : ∀ (i : Nat) (l : List Int), ls[i]? = some l → l.length ≤ 1000000) (hbase : base ≤ w.heap.size) :
    Calls Try.prog 15 #[.pointer (some ⟨p, 0, none⟩)] w fun e w' => e = .returned (.bool true) ∧ Below base w w' := by
  have hpv : ¬ Blocks vs p := fun ⟨v, hm, he⟩ => h.off v (by simp [hm]) he
  have hpw : ∀ k, Blocks vs k → k ≠ p := fun k hk e => hpv (e ▸ hk)
  have hparts := List.pairwise_cons.1 h.apart
  have hov : ∀ k, vo.ownBlock = some k → ¬ Blocks vs k := fun k hk ⟨v, hm, he⟩ => hparts.1 v (by simp [hm]) k hk he
  have hP : Parted vs := parted_of ((List.pairwise_append.1 (List.pairwise_cons.1 hparts.2).2).1)
  have hkept : KeptI w base vs ls := ⟨h.lenV, h.eachV, hP⟩
  have hbk : ∀ k, Blocks vs k → base ≤ k := fun k hk => (hkept.lt hk).1
  obtain ⟨ns, hns⟩ : ∃ ns : List Nat, ns = ls.map List.length := ⟨_, rfl⟩
  have hnl : vs.length = ns.length := by rw [hns, List.length_map]; exact h.lenV
  have hnsl : ∀ (i n : Nat), ns[i]? = some n → ∃ l, ls[i]? = some l ∧ l.length = n := by
    intro i n hi
    rw [hns, List.getElem?_map] at hi
    cases hll : ls[i]? with
    | none => rw [hll] at hi; cases hi
    | some l => rw [hll] at hi; exact ⟨l, rfl, Option.some.inj hi⟩
  have SI : Hid (∀ w1, Below w.heap.size w w1 → Calls Try.prog 22 #[.pointer (some ⟨p, 0, none⟩)] w1 fun e w' => e = .returned (.bool true) ∧ Below w1.heap.size w1 w') := fun w1 hb => by
    have h1 := h.below hb
    exact book_stillInts p _ vo wo vs ws ls w1 ⟨_, h1.row⟩ rfl rfl (own_seen h1.ownV) (own_seen h1.ownW) h.lenV h.lenW (fun i v l a b => (h1.eachV i v l a b).seen) (fun i v l a b => (h1.eachW i v l a b).seen) hN (fun i l hi => by have := hl i l hi; omega)
  have PI : Hid (∀ w1, Below w.heap.size w w1 → Calls Try.prog 30 #[.pointer (some ⟨p, 0, none⟩)] w1 fun e w' => e = .returned (.tuple #[]) ∧ KeptI w' base vs (markTo ls ls.length) ∧ Touch (Blocks vs) w1 w') := fun w1 hb => by
    have h1 := h.below hb
    exact book_putInts p base _ vo vs ls w1 ⟨_, h1.row⟩ rfl (own_seen h1.ownV) (hkept.below hb) hpv hov hN hl
  have GI : Hid (∀ w1, Touch (Blocks vs) w w1 → KeptI w1 base vs (markTo ls ls.length) → Calls Try.prog 36 #[.pointer (some ⟨p, 0, none⟩)] w1 fun e w' => (∃ out os, GrownI w1 w' vs ns vs.length out os ∧ e = .returned out) ∧ Touch (Blocks vs) w1 w') := fun w1 ht hk1 => by
    have hrow : RowIs w1 p 43 (rowI vo wo) := by
      show w1.heap[p]? = _
      rw [ht.block p h.row.lt hpv]; exact h.row
    refine book_growInts p base _ vo vs ns w1 ⟨_, hrow⟩ rfl ((own_seen h.ownV).touch ht hov) hnl ?_ hP hpv hov hN ?_ (Nat.le_trans hbase ht.size)
    · intro i v n hv hn
      obtain ⟨l, hll, rfl⟩ := hnsl i n hn
      have hlt := (List.getElem?_eq_some_iff.1 hll).1
      have := hk1.each i v _ hv (markTo_at ls ls.length i l hll)
      rwa [if_pos hlt] at this
    · intro i n hn
      obtain ⟨l, hll, rfl⟩ := hnsl i n hn
      exact hl i l hll
  have MI : Hid (∀ (v : Value) (us : List Value) (d : Nat) w1, d ≤ 100 → Seen w1 v us → us.length = vs.length → (∀ (i : Nat) (u : Value) (n : Nat), us[i]? = some u → ns[i]? = some n → Seen w1 u (cellsI (marksI i 0 (n + d)))) → Calls Try.prog 43 #[v] w1 fun e w' => e = .returned (.bool true) ∧ Below w1.heap.size w1 w') := fun v us d w1 hd hv hu hs => by
    refine book_markedInts v us (ns.map (· + d)) w1 hv (by rw [List.length_map]; omega) ?_ (by omega) ?_
    · intro i u n hu hn
      rw [List.getElem?_map] at hn
      cases hnn : ns[i]? with
      | none => rw [hnn] at hn; cases hn
      | some m =>
        rw [hnn] at hn
        obtain rfl := Option.some.inj hn
        exact hs i u m hu hnn
    · intro i n hn
      rw [List.getElem?_map] at hn
      cases hnn : ns[i]? with
      | none => rw [hnn] at hn; cases hn
      | some m =>
        rw [hnn] at hn
        obtain rfl := Option.some.inj hn
        obtain ⟨l, hll, hle⟩ := hnsl i m hnn
        have := hl i l hll
        show m + d ≤ _
        omega
  have c0 : w.cell? ⟨p, 0, none⟩ = some (.slice none 0 0) := h.row.cellAt rfl
  have c4 : w.cell? ⟨p, 4, none⟩ = some (.slice none 0 0) := h.row.cellAt rfl
  have c6 : w.cell? ⟨p, 6, none⟩ = some (.slice none 0 0) := h.row.cellAt rfl
  have c8 : w.cell? ⟨p, 8, none⟩ = some (.slice none 0 0) := h.row.cellAt rfl
  have c10 : w.cell? ⟨p, 10, none⟩ = some (.slice none 0 0) := h.row.cellAt rfl
  have c12 : w.cell? ⟨p, 12, none⟩ = some (.slice none 0 0) := h.row.cellAt rfl
  have c2 : w.cell? ⟨p, 2, none⟩ = some vo := h.row.cellAt rfl
  obtain ⟨avo, cvo, rfl⟩ : ∃ a c, vo = .slice a vs.length c := (own_seen h.ownV).form
  have HB : Hid _ := h
  have HBK : Hid _ := hbk
  have HOV : Hid _ := hov
  have HPV : Hid _ := hpv
  have SV : Hid _ := own_seen h.ownV
  have b : Below w.heap.size w w := Below.refl _ _
  clear h hparts hP hkept hnl hnsl hns hpw hov hbk hl
  go_enter Try.func15, Try.ntmps15
  go_wp2_with fail
  with_reducible refine (book_stillTexts_none p _ c0).mono ?_
  rintro e w' ⟨rfl, rfl⟩
  go_wp2_with fail
  with_reducible refine (SI.out _ b).mono ?_
  rintro e w1 ⟨rfl, b'⟩
  replace b := bel_chain8 b b'
  replace c0 := cell_belowB b' c0
  replace c4 := cell_belowB b' c4
  replace c6 := cell_belowB b' c6
  replace c8 := cell_belowB b' c8
  replace c10 := cell_belowB b' c10
  replace c12 := cell_belowB b' c12
  replace c2 := cell_belowB b' c2
  clear b'
  go_wp2_with fail
  with_reducible refine (book_stillRules_none p _ c4).mono ?_
  rintro e w' ⟨rfl, rfl⟩
  go_wp2_with fail
  with_reducible refine (book_stillNotes_none p _ c6).mono ?_
  rintro e w' ⟨rfl, rfl⟩
  go_wp2_with fail
  with_reducible refine (book_stillItems_none p _ c8).mono ?_
  rintro e w' ⟨rfl, rfl⟩
  go_wp2_with fail
  with_reducible refine (book_stillCommands_none p _ c10).mono ?_
  rintro e w' ⟨rfl, rfl⟩
  go_wp2_with fail
  with_reducible refine (book_stillReplies_none p _ c12).mono ?_
  rintro e w' ⟨rfl, rfl⟩
  have t : Touch (Blocks vs) w w1 := Touch.of_below b
  go_wp2_with fail
  with_reducible refine (book_putReplies_none p _ c12).mono ?_
  rintro e w' ⟨rfl, rfl⟩
  go_wp2_with fail
  with_reducible refine (book_putTexts_none p _ c0).mono ?_
  rintro e w' ⟨rfl, rfl⟩
  go_wp2_with fail
  with_reducible refine (PI.out _ b).mono ?_
  rintro e w2 ⟨rfl, hk2, t'⟩
  replace t := t.trans t'
  replace c0 := touch_cell t' c0 HPV.out
  replace c2 := touch_cell t' c2 HPV.out
  replace c4 := touch_cell t' c4 HPV.out
  replace c6 := touch_cell t' c6 HPV.out
  replace c8 := touch_cell t' c8 HPV.out
  replace c10 := touch_cell t' c10 HPV.out
  replace c12 := touch_cell t' c12 HPV.out
  clear b t'
  go_wp2_with fail
  with_reducible refine (book_putRules_none p _ c4).mono ?_
  rintro e w' ⟨rfl, rfl⟩
  go_wp2_with fail
  with_reducible refine (book_putNotes_none p _ c6).mono ?_
  rintro e w' ⟨rfl, rfl⟩
  go_wp2_with fail
  with_reducible refine (book_putItems_none p _ c8).mono ?_
  rintro e w' ⟨rfl, rfl⟩
  go_wp2_with fail
  with_reducible refine (book_putCommands_none p _ c10).mono ?_
  rintro e w' ⟨rfl, rfl⟩
  go_wp2_with fail
  with_reducible refine (book_growTexts_none p _ c0).mono ?_
  rintro e w' ⟨rfl, rfl⟩
  go_wp2_with fail
  with_reducible refine (GI.out _ t hk2).mono ?_
  rintro e w3 ⟨⟨out, os, hG, rfl⟩, t'⟩
  replace c0 := touch_cell t' c0 HPV.out
  replace c2 := touch_cell t' c2 HPV.out
  replace c4 := touch_cell t' c4 HPV.out
  replace c6 := touch_cell t' c6 HPV.out
  replace c8 := touch_cell t' c8 HPV.out
  replace c10 := touch_cell t' c10 HPV.out
  replace c12 := touch_cell t' c12 HPV.out
  have sv : Seen w3 (.slice avo vs.length cvo) vs := Seen.touch (Seen.touch SV.out t HOV.out) t' HOV.out
  replace t := t.trans t'
  have bb : Below base w w3 := t.below HBK.out hbase
  obtain ⟨ao, co, rfl⟩ : ∃ a c, out = .slice a vs.length c := by
    have := (own_seen hG.own).form
    rw [hG.len] at this
    exact this
  have so := own_seen hG.own
  have hs1 := hG.seen
  have hs2 := hG.old
  have hgl := hG.len
  have M1 : Hid _ := fun w4 (h4 : Below w3.heap.size w3 w4) => MI.out _ os 72 w4 (by omega) (so.below h4) hgl (fun i u n a b => (hs1 i u n a b).below h4)
  have M2 : Hid _ := fun w4 (h4 : Below w3.heap.size w3 w4) => MI.out (.slice avo vs.length cvo) vs 0 w4 (by omega) (sv.below h4) rfl (fun i u n a b => (hs2 i u n a b).below h4)
  clear so hs1 hs2 hgl sv hG t' t
  have b4 : Below w3.heap.size w3 w3 := Below.refl _ _
  go_wp2_with fail
  with_reducible refine (book_growRules_none p _ c4).mono ?_
  rintro e w' ⟨rfl, rfl⟩
  go_wp2_with fail
  with_reducible refine (book_growNotes_none p _ c6).mono ?_
  rintro e w' ⟨rfl, rfl⟩
  go_wp2_with fail
  with_reducible refine (book_growItems_none p _ c8).mono ?_
  rintro e w' ⟨rfl, rfl⟩
  go_wp2_with fail
  with_reducible refine (book_growCommands_none p _ c10).mono ?_
  rintro e w' ⟨rfl, rfl⟩
  go_wp2_with fail
  with_reducible refine (book_growReplies_none p _ c12).mono ?_
  rintro e w' ⟨rfl, rfl⟩
  clear SI PI GI MI HB SV HPV HOV HBK
  go_wp2_with fail
  with_reducible refine (book_markedTexts_none _).mono ?_
  rintro e w' ⟨rfl, rfl⟩
  go_wp2_with fail
  with_reducible refine (book_markedTexts_none _).mono ?_
  rintro e w' ⟨rfl, rfl⟩
  go_wp2_with fail
  with_reducible refine (M1.out _ b4).mono ?_
  rintro e w4 ⟨rfl, b'⟩
  replace b4 := bel_chain8 b4 b'
  replace c0 := cell_belowB b' c0
  replace c2 := cell_belowB b' c2
  replace c4 := cell_belowB b' c4
  replace c6 := cell_belowB b' c6
  replace c8 := cell_belowB b' c8
  replace c10 := cell_belowB b' c10
  replace c12 := cell_belowB b' c12
  clear b'
  go_wp2_with fail
  with_reducible refine (M2.out _ b4).mono ?_
  rintro e w4 ⟨rfl, b'⟩
  replace b4 := bel_chain8 b4 b'
  replace c0 := cell_belowB b' c0
  replace c2 := cell_belowB b' c2
  replace c4 := cell_belowB b' c4
  replace c6 := cell_belowB b' c6
  replace c8 := cell_belowB b' c8
  replace c10 := cell_belowB b' c10
  replace c12 := cell_belowB b' c12
  clear b'
  go_wp2_with fail
  with_reducible refine (book_markedRules_none _).mono ?_
  rintro e w' ⟨rfl, rfl⟩
  go_wp2_with fail
  with_reducible refine (book_markedRules_none _).mono ?_
  rintro e w' ⟨rfl, rfl⟩
  go_wp2_with fail
  with_reducible refine (book_markedNotes_none _).mono ?_
  rintro e w' ⟨rfl, rfl⟩
  go_wp2_with fail
  with_reducible refine (book_markedNotes_none _).mono ?_
  rintro e w' ⟨rfl, rfl⟩
  go_wp2_with fail
  with_reducible refine (book_markedItems_none _).mono ?_
  rintro e w' ⟨rfl, rfl⟩
  go_wp2_with fail
  with_reducible refine (book_markedItems_none _).mono ?_
  rintro e w' ⟨rfl, rfl⟩
  go_wp2_with fail
  with_reducible refine (book_markedCommands_none _).mono ?_
  rintro e w' ⟨rfl, rfl⟩
  go_wp2_with fail
  with_reducible refine (book_markedCommands_none _).mono ?_
  rintro e w' ⟨rfl, rfl⟩
  go_wp2_with fail
  with_reducible refine (book_markedReplies_none _).mono ?_
  rintro e w' ⟨rfl, rfl⟩
  go_wp2_with fail
  with_reducible refine (book_markedReplies_none _).mono ?_
  rintro e w' ⟨rfl, rfl⟩
  go_wp2
  go_ret
  exact ⟨rfl, bb.trans (b4.mono (Nat.le_trans hbase bb.size))⟩

end Go.Proofs.Ytmpmhepaonifpaa
