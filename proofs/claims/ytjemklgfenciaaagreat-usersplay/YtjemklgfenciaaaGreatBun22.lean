/-
  Parts of this proof, one behind the other: BokT8, BokT9.
-/
import Derived.Test.YtjemklgfenciaaaGreatBun21
import Derived.Deep.RegionHeld3

/-
  A book that keeps lists of texts: one more list.
-/
namespace Go.Proofs.YtjemklgfenciaaaGreat
open Go.RowKit
set_option linter.unusedVariables false
set_option maxRecDepth 100000
set_option linter.unusedSimpArgs false

theorem BookT.lt {w : World} {base p : Nat} {vo wo : Value} {vs ws : List Value} {ls : List (List ByteArray)} (h : BookT w base p vo wo vs ws ls) {u : Value} (hu : u ∈ vo :: wo :: (vs ++ ws)) {k : Nat} (hk : u.ownBlock = some k) : base ≤ k ∧ k < w.heap.size := by
  have hcase : u = vo ∨ u = wo ∨ u ∈ vs ∨ u ∈ ws := by simpa using hu
  rcases hcase with rfl | rfl | hu | hu
  · exact World.ownsRow.lt h.ownV k hk
  · exact World.ownsRow.lt h.ownW k hk
  · obtain ⟨i, hi⟩ := List.getElem?_of_mem hu
    have hlt : i < ls.length := by rw [← h.lenV]; exact (List.getElem?_eq_some_iff.1 hi).1
    exact World.ownsRow.lt (h.eachV i u ls[i] hi (List.getElem?_eq_getElem hlt)) k hk
  · obtain ⟨i, hi⟩ := List.getElem?_of_mem hu
    have hlt : i < ls.length := by rw [← h.lenW]; exact (List.getElem?_eq_some_iff.1 hi).1
    exact World.ownsRow.lt (h.eachW i u ls[i] hi (List.getElem?_eq_getElem hlt)) k hk


theorem BookT.more {w w' : World} {base p : Nat} {vo wo vo' wo' v u : Value} {vs ws : List Value} {ls : List (List ByteArray)} {l : List ByteArray} (h : BookT w base p vo wo vs ws ls) (hv : OwnT w base v l) (hf : Free w p (vo :: wo :: (vs ++ ws)) v)
    (T : Touch (fun k => k = p ∨ vo.ownBlock = some k ∨ wo.ownBlock = some k) w w') (row' : RowIs w' p 45 (rowT vo' wo')) (ov : w'.ownsRow base 47 1 vo' (vs.length + 1) (vs ++ [v])) (ow : w'.ownsRow base 47 1 wo' (ws.length + 1) (ws ++ [u]))
    (hvo : vo'.ownBlock = vo.ownBlock ∨ ∃ b, vo'.ownBlock = some b ∧ w.heap.size ≤ b) (hwo : wo'.ownBlock = wo.ownBlock ∨ ∃ b, wo'.ownBlock = some b ∧ w.heap.size ≤ b) (hu : OwnT w' w.heap.size u l) (d1 : Apart2 vo' wo') (d2 : Apart2 vo' u) (d3 : Apart2 wo' u) (hbase : base ≤ w.heap.size) :
    BookT w' base p vo' wo' (vs ++ [v]) (ws ++ [u]) (ls ++ [l]) := by
  have hp := h.row.lt
  have hc := List.pairwise_cons.1 h.apart
  have hc2 := List.pairwise_cons.1 hc.2
  have hc3 := List.pairwise_append.1 hc2.2
  have hub : ∀ k, u.ownBlock = some k → w.heap.size ≤ k := fun k hk => (World.ownsRow.lt hu k hk).1
  -- a list of the book's lies beside the two outer rows, old or new
  have hV : ∀ x ∈ vs ++ ws, Apart2 vo' x := by
    intro x hx k hk hk2
    have hxl := h.lt (u := x) (by simp at hx ⊢; rcases hx with hx | hx <;> simp [hx]) hk2
    rcases hvo with e | ⟨b, hb, hle⟩
    · exact hc.1 x (by simp at hx ⊢; rcases hx with hx | hx <;> simp [hx]) k (e ▸ hk) hk2
    · rw [hk] at hb
      have := Option.some.inj hb
      omega
  have hW : ∀ x ∈ vs ++ ws, Apart2 wo' x := by
    intro x hx k hk hk2
    have hxl := h.lt (u := x) (by simp at hx ⊢; rcases hx with hx | hx <;> simp [hx]) hk2
    rcases hwo with e | ⟨b, hb, hle⟩
    · exact hc2.1 x hx k (e ▸ hk) hk2
    · rw [hk] at hb
      have := Option.some.inj hb
      omega
  have hVv : Apart2 vo' v := by
    intro k hk hk2
    obtain ⟨h1, h2, h3⟩ := hf k hk2
    rcases hvo with e | ⟨b, hb, hle⟩
    · exact h3 vo (by simp) (e ▸ hk)
    · rw [hk] at hb
      have := Option.some.inj hb
      omega
  have hWv : Apart2 wo' v := by
    intro k hk hk2
    obtain ⟨h1, h2, h3⟩ := hf k hk2
    rcases hwo with e | ⟨b, hb, hle⟩
    · exact h3 wo (by simp) (e ▸ hk)
    · rw [hk] at hb
      have := Option.some.inj hb
      omega
  have hxv : ∀ x ∈ vs ++ ws, Apart2 x v := by
    intro x hx k hk hk2
    obtain ⟨h1, h2, h3⟩ := hf k hk2
    exact h3 x (by simp at hx ⊢; rcases hx with hx | hx <;> simp [hx]) hk
  have hxu : ∀ x ∈ vs ++ ws, Apart2 x u := by
    intro x hx k hk hk2
    have hxl := h.lt (u := x) (by simp at hx ⊢; rcases hx with hx | hx <;> simp [hx]) hk
    have := hub k hk2
    omega
  have hvu : Apart2 v u := by
    intro k hk hk2
    have h1 := (hf k hk).1
    have := hub k hk2
    omega
  have keepV : ∀ {x : Value} {m : List ByteArray}, x ∈ vs ++ ws → OwnT w base x m → OwnT w' base x m := by
    intro x m hx ho
    refine own_touch ho T (fun k hk hS => ?_)
    rcases hS with rfl | hS | hS
    · exact h.off x (by simp at hx ⊢; rcases hx with hx | hx <;> simp [hx]) hk
    · exact hc.1 x (by simp at hx ⊢; rcases hx with hx | hx <;> simp [hx]) k hS hk
    · exact hc2.1 x hx k hS hk
  refine ⟨row', h.here, by rw [List.length_append]; exact ov, by rw [List.length_append]; exact ow, by simp [h.lenV], by simp [h.lenW], ?_, ?_, ?_, ?_⟩
  · intro i x m hx hm
    rcases Nat.lt_or_ge i vs.length with hlt | hge
    · rw [List.getElem?_append_left hlt] at hx
      rw [List.getElem?_append_left (by rw [← h.lenV]; exact hlt)] at hm
      exact keepV (by simp [List.mem_of_getElem? hx]) (h.eachV i x m hx hm)
    · have hi : i = vs.length := by
        have := (List.getElem?_eq_some_iff.1 hx).1
        rw [List.length_append] at this
        simp at this
        omega
      subst hi
      rw [List.getElem?_append_right (Nat.le_refl _), Nat.sub_self] at hx
      rw [h.lenV, List.getElem?_append_right (Nat.le_refl _), Nat.sub_self] at hm
      obtain rfl := Option.some.inj hx
      obtain rfl := Option.some.inj hm
      refine own_touch hv T (fun k hk hS => ?_)
      obtain ⟨h1, h2, h3⟩ := hf k hk
      rcases hS with hS | hS | hS
      · exact h2 hS
      · exact h3 vo (by simp) hS
      · exact h3 wo (by simp) hS
  · intro i x m hx hm
    rcases Nat.lt_or_ge i ws.length with hlt | hge
    · rw [List.getElem?_append_left hlt] at hx
      rw [List.getElem?_append_left (by rw [← h.lenW]; exact hlt)] at hm
      exact keepV (by simp [List.mem_of_getElem? hx]) (h.eachW i x m hx hm)
    · have hi : i = ws.length := by
        have := (List.getElem?_eq_some_iff.1 hx).1
        rw [List.length_append] at this
        simp at this
        omega
      subst hi
      rw [List.getElem?_append_right (Nat.le_refl _), Nat.sub_self] at hx
      rw [h.lenW, List.getElem?_append_right (Nat.le_refl _), Nat.sub_self] at hm
      obtain rfl := Option.some.inj hx
      obtain rfl := Option.some.inj hm
      exact hu.base hbase
  · refine List.pairwise_cons.2 ⟨?_, List.pairwise_cons.2 ⟨?_, ?_⟩⟩
    · intro x hx
      have hcase : x = wo' ∨ (x ∈ vs ++ ws) ∨ x = v ∨ x = u := by simp at hx ⊢; rcases hx with e | e | e | e | e <;> simp [e]
      rcases hcase with rfl | hx | rfl | rfl
      · exact d1
      · exact hV x hx
      · exact hVv
      · exact d2
    · intro x hx
      have hcase : (x ∈ vs ++ ws) ∨ x = v ∨ x = u := by simp at hx ⊢; rcases hx with e | e | e | e <;> simp [e]
      rcases hcase with hx | rfl | rfl
      · exact hW x hx
      · exact hWv
      · exact d3
    · refine List.pairwise_append.2 ⟨List.pairwise_append.2 ⟨hc3.1, List.pairwise_singleton _ _, fun x hx y hy => ?_⟩, List.pairwise_append.2 ⟨hc3.2.1, List.pairwise_singleton _ _, fun x hx y hy => ?_⟩, fun x hx y hy => ?_⟩
      · obtain rfl : y = v := by simpa using hy
        exact hxv x (by simp [hx])
      · obtain rfl : y = u := by simpa using hy
        exact hxu x (by simp [hx])
      · have hx' : x ∈ vs ∨ x = v := by simpa using hx
        have hy' : y ∈ ws ∨ y = u := by simpa using hy
        rcases hx' with hx | rfl <;> rcases hy' with hy | rfl
        · exact hc3.2.2 x hx y hy
        · exact hxu x (by simp [hx])
        · exact (hxv y (by simp [hy])).symm
        · exact hvu
  · intro x hx he
    have hcase : x = vo' ∨ x = wo' ∨ (x ∈ vs ++ ws) ∨ x = v ∨ x = u := by simp at hx ⊢; rcases hx with e | e | e | e | e | e <;> simp [e]
    rcases hcase with rfl | rfl | hx | rfl | rfl
    · rcases hvo with e | ⟨b, hb, hle⟩
      · exact h.off vo (by simp) (e ▸ he)
      · rw [he] at hb
        have := Option.some.inj hb
        omega
    · rcases hwo with e | ⟨b, hb, hle⟩
      · exact h.off wo (by simp) (e ▸ he)
      · rw [he] at hb
        have := Option.some.inj hb
        omega
    · exact h.off x (by simp at hx ⊢; rcases hx with hx | hx <;> simp [hx]) he
    · exact (hf p he).2.1 rfl
    · have := hub p he
      omega

end Go.Proofs.YtjemklgfenciaaaGreat

/-
  A book that keeps lists of texts: the contract of Texts.
-/
namespace Go.Proofs.YtjemklgfenciaaaGreat
open Go.RowKit
set_option linter.unusedVariables false
set_option maxRecDepth 100000
set_option linter.unusedSimpArgs false



/-- The book's state behind Texts. -/
theorem texts_end {w w3 w5 w6 : World} {base p : Nat} {vo wo vo' wo' v u : Value} {vs ws : List Value} {ls : List (List ByteArray)} {l : List ByteArray} {ob : Obj} (h : BookT w base p vo wo vs ws ls) (hv : OwnT w base v l) (hf : Free w p (vo :: wo :: (vs ++ ws)) v) (hbase : base ≤ w.heap.size)
    (T3 : Touch (fun k => k = p ∨ vo.ownBlock = some k) w w3) (b35 : Below w3.heap.size w3 w5) (ho3 : w3.ownsRow base 47 1 vo' (vs.length + 1) (vs ++ [v])) (hvo : vo'.ownBlock = vo.ownBlock ∨ ∃ b, vo'.ownBlock = some b ∧ w.heap.size ≤ b) (hu : OwnT w5 w3.heap.size u l)
    (hg6 : (w5.alloc ob).grownBy w6 wo.ownBlock) (ho6 : w6.ownsRow base 47 1 wo' (ws.length + 1) (ws ++ [u])) (hat6 : wo'.ownBlock = wo.ownBlock ∨ wo'.ownBlock = some (w5.alloc ob).heap.size ∧ (w5.alloc ob).grownBy w6 none) (r6 : RowIs w6 p 45 (rowT vo' wo)) :
    BookT (w6.setCell ⟨p, 1, none⟩ wo') base p vo' wo' (vs ++ [v]) (ws ++ [u]) (ls ++ [l]) ∧ Touch (fun k => k = p ∨ vo.ownBlock = some k ∨ wo.ownBlock = some k) w (w6.setCell ⟨p, 1, none⟩ wo') ∧ Olds w vo wo vo' wo' u := by
  have hz3 := T3.size
  have hz5 := b35.size
  have hal : (w5.alloc ob).heap.size = w5.heap.size + 1 := by simp
  have hpl := h.row.lt
  have hvw : Apart2 vo wo := (List.pairwise_cons.1 h.apart).1 _ (by simp)
  have hwl : ∀ k, wo.ownBlock = some k → k < w.heap.size := fun k hk => (World.ownsRow.lt h.ownW k hk).2
  have hul : ∀ k, u.ownBlock = some k → w3.heap.size ≤ k ∧ k < w5.heap.size := fun k hk => World.ownsRow.lt hu k hk
  have hv3 : ∀ k, vo'.ownBlock = some k → k < w3.heap.size := fun k hk => (World.ownsRow.lt ho3 k hk).2
  have hvp : ∀ k, vo'.ownBlock = some k → k ≠ p ∧ wo.ownBlock ≠ some k := by
    intro k hk
    rcases hvo with e | ⟨b, hb, hle⟩
    · exact ⟨fun e2 => h.off vo (by simp) (e ▸ e2 ▸ hk), fun e2 => hvw k (e ▸ hk) e2⟩
    · rw [hk] at hb
      have hkb := Option.some.inj hb
      exact ⟨by omega, fun e2 => by have := hwl k e2; omega⟩
  have T5 : Touch (fun k => k = p ∨ vo.ownBlock = some k ∨ wo.ownBlock = some k) w w5 := (T3.trans (Touch.of_below b35)).mono (fun k _ hk => by rcases hk with hk | hk; exact Or.inl hk; exact Or.inr (Or.inl hk))
  have T6 : Touch (fun k => k = p ∨ vo.ownBlock = some k ∨ wo.ownBlock = some k) w w6 := (T5.alloc ob).grown hg6 (fun k hk => Or.inl (Or.inr (Or.inr hk)))
  have T7 : Touch (fun k => k = p ∨ vo.ownBlock = some k ∨ wo.ownBlock = some k) w (w6.setCell ⟨p, 1, none⟩ wo') := T6.set (Or.inl (Or.inl rfl)) _
  have A7 : Touch (fun k => k = p ∨ wo.ownBlock = some k) w5 (w6.setCell ⟨p, 1, none⟩ wo') := (((Touch.refl (fun k => k = p ∨ wo.ownBlock = some k) w5).alloc ob).grown hg6 (fun k hk => Or.inl (Or.inr hk))).set (p := ⟨p, 1, none⟩) (Or.inl (Or.inl rfl)) wo'
  have hwo : wo'.ownBlock = wo.ownBlock ∨ ∃ b, wo'.ownBlock = some b ∧ w.heap.size ≤ b ∧ b = w5.heap.size + 1 := by
    rcases hat6 with e | ⟨e, _⟩
    · exact Or.inl e
    · exact Or.inr ⟨_, e, by omega, hal⟩
  refine ⟨h.more hv hf T7 (r6.set 1 wo') ?_ ?_ hvo ?_ ?_ ?_ ?_ ?_ hbase, T7, ?_⟩
  · refine own_touch (own_touch ho3 (Touch.of_below (S := fun _ => False) b35) (fun _ _ x => x)) A7 (fun k hk hS => ?_)
    rcases hS with hS | hS
    · exact (hvp k hk).1 hS
    · exact (hvp k hk).2 hS
  · refine own_touch ho6 ((Touch.refl (fun k => k = p) w6).set (Or.inl rfl) _) (fun k hk hS => ?_)
    subst hS
    rcases hwo with e | ⟨b, hb, hle, _⟩
    · exact h.off wo (by simp) (e ▸ hk)
    · rw [hk] at hb
      have := Option.some.inj hb
      omega
  · rcases hwo with e | ⟨b, hb, hle, _⟩
    · exact Or.inl e
    · exact Or.inr ⟨b, hb, hle⟩
  · refine own_touch (hu.base (by omega)) A7 (fun k hk hS => ?_)
    have h1 := hul k hk
    rcases hS with hS | hS
    · omega
    · have := hwl k hS; omega
  · intro k hk hk2
    rcases hwo with e | ⟨b, hb, _, hle⟩
    · exact (hvp k hk).2 (e ▸ hk2)
    · rw [hk2] at hb
      have h1 := Option.some.inj hb
      have h2 := hv3 k hk
      omega
  · intro k hk hk2
    have h1 := hv3 k hk
    have h2 := hul k hk2
    omega
  · intro k hk hk2
    have h2 := hul k hk2
    rcases hwo with e | ⟨b, hb, _, hle⟩
    · have := hwl k (e ▸ hk); omega
    · rw [hk] at hb
      have h1 := Option.some.inj hb
      omega
  · intro k hk
    refine ⟨fun e => ?_, fun e => ?_, fun e => ?_⟩
    · rcases hvo with e2 | ⟨b, hb, hle⟩
      · exact e2 ▸ e
      · rw [e] at hb
        have := Option.some.inj hb
        omega
    · rcases hwo with e2 | ⟨b, hb, hle, _⟩
      · exact e2 ▸ e
      · rw [e] at hb
        have := Option.some.inj hb
        omega
    · have := (hul k e).1
      omega

set_option maxRecDepth 100000 in
set_option maxHeartbeats 1000000 in
theorem book_textsO (base p : Nat) (vo wo : Value) (vs ws : List Value) (ls : List (List ByteArray)) (v : Value) (l : List ByteArray) (w : World) (h : BookT w base p vo wo vs ws ls) (hv : OwnT w base v l) (hf : Free w p (vo :: wo :: (vs ++ ws)) v) (hN : vs.length < 250) (hl : l.length ≤ 1000000) (hbase : base ≤ w.heap.size) :
    Calls Tryz.prog 11 #[.pointer (some ⟨p, 0, none⟩), v] w fun e w' => e = .returned (.tuple #[]) ∧ (∃ vo' wo' u, BookT w' base p vo' wo' (vs ++ [v]) (ws ++ [u]) (ls ++ [l]) ∧ Olds w vo wo vo' wo' u) ∧ Touch (fun k => k = p ∨ vo.ownBlock = some k ∨ wo.ownBlock = some k) w w' := by
  obtain ⟨iS, hiS, hy0, hy1, hy2⟩ := info_parts infoSlT
  have hc2 : w.cell? ⟨p, 0, none⟩ = some vo := h.row.cellAt rfl
  obtain ⟨avo, cvo, rfl⟩ : ∃ a c, vo = .slice a vs.length c := (own_seen h.ownV).form
  obtain ⟨awo, cwo, rfl⟩ : ∃ a c, wo = .slice a ws.length c := (own_seen h.ownW).form
  obtain ⟨av, cv, rfl⟩ := hv.shape
  have hoV := h.ownV
  have hoW := h.ownW
  have hlw : ws.length = vs.length := by rw [h.lenW, h.lenV]
  have HLW : Hid (ws.length = vs.length) := hlw
  have HB : Hid _ := h
  have HV : Hid (OwnT w base (.slice av l.length cv) l) := hv
  have HF : Hid _ := hf
  have hpl := h.row.lt
  have hrow := h.row
  have hoffV : (Value.slice avo vs.length cvo).ownBlock ≠ some p := h.off _ (by simp)
  have hoffW : (Value.slice awo ws.length cwo).ownBlock ≠ some p := h.off _ (by simp)
  have hvw : Apart2 (.slice avo vs.length cvo) (.slice awo ws.length cwo) := (List.pairwise_cons.1 h.apart).1 _ (by simp)
  clear h hv hf hlw
  generalize hn : l.length = n at *
  obtain ⟨N, hNN⟩ : ∃ N, vs.length = N := ⟨_, rfl⟩
  have HNN : Hid (vs.length = N) := hNN
  rw [hNN] at hc2 hoV hN hoffV hvw HF HB HLW hrow
  rw [HLW.out] at hoW hoffW hvw HF HB hrow
  rw [hNN]
  clear hNN
  have d1 : decide ((N : Int) < 250) = true := by simp; omega
  go_enter Tryz.func11, Tryz.ntmps11
  go_wp2_with (first | (at_builtin; refine wpList_append_two _ rfl (.tmp 14) (.tmp 16) 37 rfl base 47 iS (.slice none 0 0) 1 24 Tryz.underlying37 hiS hy0 hy1 hy2 rfl (by decide) (.slice avo N cvo) N vs rfl (hoV.alloc _) ⟨w.heap.size, 0, none⟩ 1 1 [.slice av n cv] rfl rfl (cell_one_new w (.slice av n cv) 47) (by intro u hu; simp at hu; rw [hu]; rfl) (by unfold maxLen; omega) (by omega) (by simp; omega) ?_))
  intro vo' w2 ho2 hg2 hat2
  obtain ⟨avo', cvo', rfl⟩ : ∃ a c, vo' = .slice a (N + 1) c := by
    have := (own_seen ho2).form
    rw [List.length_append, HNN.out] at this
    exact this
  have T2 : Touch (fun k => k = p ∨ (Value.slice avo N cvo).ownBlock = some k) w w2 := ((Touch.refl _ w).alloc _).grown hg2 (fun k hk => Or.inl (Or.inr hk))
  have hrow2 : RowIs w2 p 45 (rowT (.slice avo N cvo) (.slice awo N cwo)) := by
    show w2.heap[p]? = _
    rw [hg2.block p (by simp; omega) (fun e => hoffV e.symm), Below.heap_alloc _ _ _ hpl]
    exact hrow
  have hvo2 : (Value.slice avo' (N + 1) cvo').ownBlock = (Value.slice avo N cvo).ownBlock ∨ ∃ b, (Value.slice avo' (N + 1) cvo').ownBlock = some b ∧ w.heap.size ≤ b := by
    rcases hat2 with e | ⟨e, _⟩
    · exact Or.inl e
    · exact Or.inr ⟨_, e, by simp⟩
  have hp2 : ∀ k, (Value.slice avo' (N + 1) cvo').ownBlock = some k → ¬ k = p := by
    intro k hk e
    subst e
    rcases hvo2 with e | ⟨b, e, hle⟩
    · exact hoffV (e ▸ hk)
    · rw [hk] at e
      have := Option.some.inj e
      omega
  have q2 : w2.cell? ⟨p, 0, none⟩ = some (.slice avo N cvo) := hrow2.cellAt rfl
  have f2 := hrow2.frozen 0
  have r3 : RowIs (w2.setCell ⟨p, 0, none⟩ (.slice avo' (N + 1) cvo')) p 45 (rowT (.slice avo' (N + 1) cvo') (.slice awo N cwo)) := hrow2.set 0 _
  have T3 : Touch (fun k => k = p ∨ (Value.slice avo N cvo).ownBlock = some k) w (w2.setCell ⟨p, 0, none⟩ (.slice avo' (N + 1) cvo')) := T2.set (Or.inl (Or.inl rfl)) _
  have ho3 : (w2.setCell ⟨p, 0, none⟩ (.slice avo' (N + 1) cvo')).ownsRow base 47 1 (.slice avo' (N + 1) cvo') (N + 1) (vs ++ [.slice av n cv]) := own_touch ho2 ((Touch.refl (fun k => k = p) w2).set (Or.inl rfl) _) hp2
  go_wp2_with fail
  clear q2 f2 hrow2 T2 hp2 hg2 hat2 ho2 hrow
  generalize w2.setCell ⟨p, 0, none⟩ (.slice avo' (N + 1) cvo') = w3 at *
  have how3 : w3.ownsRow base 47 1 (.slice awo N cwo) N ws := own_touch hoW T3 (fun k hk hS => by
    rcases hS with rfl | hS
    · exact hoffW hk
    · exact hvw k hS hk)
  have sv3 : OwnT w3 base (.slice av n cv) l := own_touch HV.out T3 (fun k hk hS => by
    obtain ⟨h1, h2, h3⟩ := HF.out k hk
    rcases hS with hS | hS
    · exact h2 hS
    · exact h3 _ (by simp) hS)
  have PC : Hid (∀ w4, Below w3.heap.size w3 w4 → Calls Tryz.prog 27 #[.slice av n cv] w4 fun e w' => (∃ v', OwnT w' w4.heap.size v' l ∧ e = .returned v') ∧ Below w4.heap.size w4 w') := fun w4 hb => book_copyTexts l _ w4 (sv3.seen.below hb) (by omega)
  have c3 : w3.cell? ⟨p, 1, none⟩ = some (.slice awo N cwo) := r3.cellAt rfl
  have b3 : Below w3.heap.size w3 w3.drew := (Below.refl _ _).drew
  have hp3 := r3.lt
  have hz3 := T3.size
  clear sv3 hoV hoW hc2
  simp only [opLd_is]
  have hop := opLd_back
  go_region_held3 (fun w' => True) (exact True.intro) (first | (go_at_call 27; (with_reducible refine (PC.out _ b3).mono ?_); rintro e w5 ⟨⟨u, hu, rfl⟩, b5⟩; (obtain ⟨au, cu, rfl⟩ := hu.shape); have b35 : Below w3.heap.size w3 w5 := bel_chain8 b3 b5; have c5 := cell_belowB b35 c3; have c5a := cell_alloc9 c5; have r5 := r3.below b35 r3.lt; have how5 := own_touch how3 (Touch.of_below (S := fun _ => False) b35) (fun _ _ x => x); rw [hn] at hu ⊢) | (refine step_append_two _ rfl (.tmp 24) (.tmp 27) 37 rfl base 47 iS (.slice none 0 0) 1 24 Tryz.underlying37 hiS hy0 hy1 hy2 rfl (by decide) (.slice awo N cwo) N ws rfl (how5.alloc _) ⟨w5.heap.size, 0, none⟩ 1 1 [.slice au n cu] rfl rfl (cell_one_new w5 (.slice au n cu) 47) (by intro u hu; simp at hu; rw [hu]; rfl) (by unfold maxLen; omega) (by omega) (by have := b35.size; simp; omega) ?_; intro wo' w6 ho6 hg6 hat6; (obtain ⟨awo', cwo', rfl⟩ := own_form ho6); have r6 := row_kept r5 hg6 hoffW; have c6 := r6.cellAt (j := 1) rfl; have f6 := r6.frozen 1))
  all_goals
    go_wp2
    go_end0
    have fin := texts_end HB.out HV.out HF.out hbase T3 b35 (by rw [HNN.out]; exact ho3) hvo2 hu hg6 (by rw [HLW.out]; exact ho6) hat6 r6
    exact ⟨rfl, ⟨_, _, _, fin.1, by rw [HLW.out]; exact fin.2.2⟩, by rw [HLW.out]; exact fin.2.1⟩

theorem book_texts (base p : Nat) (vo wo : Value) (vs ws : List Value) (ls : List (List ByteArray)) (v : Value) (l : List ByteArray) (w : World) (h : BookT w base p vo wo vs ws ls) (hv : OwnT w base v l) (hf : Free w p (vo :: wo :: (vs ++ ws)) v) (hN : vs.length < 250) (hl : l.length ≤ 1000000) (hbase : base ≤ w.heap.size) :
    Calls Tryz.prog 11 #[.pointer (some ⟨p, 0, none⟩), v] w fun e w' => e = .returned (.tuple #[]) ∧ (∃ vo' wo' u, BookT w' base p vo' wo' (vs ++ [v]) (ws ++ [u]) (ls ++ [l])) ∧ Touch (fun k => k = p ∨ vo.ownBlock = some k ∨ wo.ownBlock = some k) w w' :=
  (book_textsO base p vo wo vs ws ls v l w h hv hf hN hl hbase).mono fun e w' hh => by
    obtain ⟨he, ⟨vo', wo', u, hB, _⟩, ht⟩ := hh
    exact ⟨he, ⟨vo', wo', u, hB⟩, ht⟩

end Go.Proofs.YtjemklgfenciaaaGreat
