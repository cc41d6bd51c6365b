/-
  Parts of this proof, one behind the other: BokS, BokL.
-/
import Derived.Test.YtgcbanmjfnnccaaGreatBun19
import Derived.Test.YtgcbanmjfnnccaaGreatBun13
import Derived.Test.YtgcbanmjfnnccaaGreatBun14

/-
  Lists of texts that lie at whatever place of their row: alike, copied; LentTexts, StaysTexts, SameReply.
-/
namespace Go.Proofs.YtgcbanmjfnnccaaGreat
open Go.RowKit
set_option linter.unusedVariables false
set_option maxRecDepth 100000
set_option linter.unusedSimpArgs false

/-- A list of texts that can be read, wherever in its row it begins. -/
def Reads (w : World) (v : Value) (l : List ByteArray) : Prop :=
  (v = .slice none 0 0 ∧ l = []) ∨ ∃ (a : Addr) (cap : Nat), v = .slice (some a) l.length cap ∧ ∀ i, i < l.length → ∃ b o, a = ⟨b, o, none⟩ ∧ w.cell? ⟨b, o + i, none⟩ = some (.string (l.getD i ⟨#[]⟩))
theorem Reads.shape {w : World} {v : Value} {l : List ByteArray} (h : Reads w v l) : ∃ oa cap, v = .slice oa l.length cap ∧ ∀ i, i < l.length → ∃ b o, oa = some ⟨b, o, none⟩ ∧ w.cell? ⟨b, o + i, none⟩ = some (.string (l.getD i ⟨#[]⟩)) := by
  rcases h with ⟨rfl, rfl⟩ | ⟨a, cap, rfl, hc⟩
  · exact ⟨none, 0, rfl, fun i hi => absurd hi (by simp)⟩
  · refine ⟨some a, cap, rfl, fun i hi => ?_⟩
    obtain ⟨b, o, rfl, h⟩ := hc i hi
    exact ⟨b, o, rfl, h⟩
theorem Reads.below {w w' : World} {v : Value} {l : List ByteArray} (h : Reads w v l) (hb : Below w.heap.size w w') : Reads w' v l := by
  rcases h with h | ⟨a, cap, rfl, hc⟩
  · exact Or.inl h
  · refine Or.inr ⟨a, cap, rfl, fun i hi => ?_⟩
    obtain ⟨b, o, rfl, h1⟩ := hc i hi
    exact ⟨b, o, rfl, (hb.cell (p := ⟨b, o + i, none⟩) (World.block_lt_of_cell? w ⟨b, o + i, none⟩ h1)).trans h1⟩
theorem Reads.of_seen {w : World} {v : Value} {l : List ByteArray} (h : Seen w v (cellsT l)) : Reads w v l := by
  rcases h with ⟨rfl, h0⟩ | ⟨g, cap, rfl, hc⟩
  · have hl : l = [] := by cases l; rfl; simp [cellsT] at h0
    subst hl
    exact Or.inl ⟨rfl, rfl⟩
  · refine Or.inr ⟨⟨g, 0, none⟩, cap, by rw [cellsT_len], fun i hi => ⟨g, 0, rfl, ?_⟩⟩
    rw [Nat.zero_add]
    exact hc i _ (cellsT_at l i hi)
theorem Reads.of_own {w : World} {base : Nat} {v : Value} {l : List ByteArray} (h : OwnT w base v l) : Reads w v l := Reads.of_seen (own_seen h)

set_option maxHeartbeats 1000000 in
theorem book_sameReads (l : List ByteArray) (va vb : Value) (w : World) (ha : Reads w va l) (hb : Reads w vb l) (hl : l.length ≤ 4611686018427387904) :
    Calls Tryz.prog 32 #[va, vb] w fun e w' => e = .returned (.bool true) ∧ Below w.heap.size w w' := by
  obtain ⟨oa, cap, rfl, hg⟩ := ha.shape
  obtain ⟨ob, cap', rfl, hg'⟩ := hb.shape
  have G : Hid _ := hg
  have G' : Hid _ := hg'
  clear hg hg'
  generalize hn : l.length = n at *
  go_enter Tryz.func32, Tryz.ntmps32
  go_wp2_with fail
  go_loopw [5] (fun i wr => ∃ k : Nat, k ≤ n ∧ i = .int .i64 k ∧ Below w.heap.size w wr) (fun i _ => n - (intOf i).toNat)
  case atStart => exact ⟨0, Nat.zero_le _, rfl, Below.refl _ _⟩
  case round =>
    obtain ⟨k, hk, rfl, hbel⟩ := hrel
    by_cases hlt : k < n
    · obtain ⟨g, o, rfl, c1⟩ := G.out k hlt
      obtain ⟨g', o', rfl, c2⟩ := G'.out k hlt
      have b1 : g < w.heap.size := World.block_lt_of_cell? w ⟨g, o + k, none⟩ c1
      have b2 : g' < w.heap.size := World.block_lt_of_cell? w ⟨g', o' + k, none⟩ c2
      replace c1 := (hbel.cell (p := ⟨g, o + k, none⟩) b1).trans c1
      replace c2 := (hbel.cell (p := ⟨g', o' + k, none⟩) b2).trans c2
      have d1 : decide ((k : Int) < (n : Int)) = true := by simp; omega
      have d2 : (k : Int) < (n : Int) := by omega
      generalize l.getD k ⟨#[]⟩ = X at *
      have hself := str_beq_self X
      go_wp2_with fail
      go_region
      go_wp2
      go_roundw
      case rel => exact ⟨k + 1, by omega, by go_num, hbel.drew⟩
      case measure => simp [intOf]; omega
    · have d1 : decide ((k : Int) < (n : Int)) = false := by simp; omega
      go_wp2
      go_ret
      exact ⟨rfl, hbel⟩

theorem own_copy (l : List ByteArray) (v : Value) (w : World) (h : Reads w v l) (hl : l.length ≤ 1000000000) :
    Calls Tryz.prog 18 #[v] w fun e w' => (∃ v', OwnT w' w.heap.size v' l ∧ e = .returned v') ∧ Below w.heap.size w w' := by
  obtain ⟨i0, hi0, hz0, hz1, hz2⟩ := info_parts infoT
  have hnil : w.ownsRow w.heap.size 9 1 (.slice none 0 0) 0 [] := World.ownsRow_nil w _ _ _
  rcases h with ⟨rfl, rfl⟩ | ⟨a, cap, rfl, hc⟩
  · have hrun := run_append_nothing (P := Tryz.prog) w 23 23 23 9 i0 Tryz.underlying23 hi0 none 0 0 (Nat.le_refl _) (.slice none 0 0) (Src.ofNil w Tryz.underlying23 0)
    go_enter Tryz.func18, Tryz.ntmps18
    go_wp2
    go_ret
    exact ⟨⟨_, hnil, rfl⟩, Below.refl _ _⟩
  · have hn : ∀ (j : Nat) (u : Value), (cellsT l)[j]? = some u → w.cell? (a.add j) = some u := by
      intro j u hj
      have hjl : j < l.length := by have := (List.getElem?_eq_some_iff.1 hj).1; rwa [cellsT_len] at this
      rw [cellsT_at l j hjl] at hj
      obtain ⟨g, o, rfl, h2⟩ := hc j hjl
      rw [Addr.add_mid, h2]
      exact hj
    have hcl := cellsT_len l
    generalize hk : l.length = n at *
    go_enter Tryz.func18, Tryz.ntmps18
    go_wp2_with (first | (at_builtin; refine wpList_append_two _ rfl (.const (.slice none 0 0)) (.tmp 3) 23 rfl w.heap.size 9 i0 (.string ⟨#[]⟩) 1 16 Tryz.underlying23 hi0 hz0 hz1 hz2 rfl (by decide) (.slice none 0 0) 0 [] rfl hnil a n cap (cellsT l) rfl (by omega) hn (cellsT_one _) (by unfold maxLen; omega) (by omega) (Nat.le_refl _) ?_))
    intro v' w2 hown2 hgrow2 hat
    obtain ⟨ao, c', rfl⟩ : ∃ ao c', v' = .slice ao n c' := by
      have := (own_seen hown2).form
      rw [hcl] at this
      exact this
    go_wp2
    go_ret
    exact ⟨⟨_, by unfold OwnT; rw [hk]; exact hown2, rfl⟩, (Below.refl _ _).grown hgrow2 (Nat.le_refl _) (fun j hj => by cases hj)⟩

end Go.Proofs.YtgcbanmjfnnccaaGreat

/-
  LentTexts, StaysTexts, SameReply.
-/
namespace Go.Proofs.YtgcbanmjfnnccaaGreat
open Go.RowKit
set_option linter.unusedVariables false
set_option maxRecDepth 100000
set_option linter.unusedSimpArgs false

def markS : ByteArray := ⟨#[109, 97, 114, 107]⟩
/-- A list with room behind it, in which the mark stands. -/
def Lent (w : World) (base : Nat) (v : Value) (l : List ByteArray) : Prop := ∃ g cap, v = .slice (some ⟨g, 0, none⟩) l.length cap ∧ l.length + 1 ≤ cap ∧ base ≤ g ∧ (∀ i, i < l.length → w.cell? ⟨g, i, none⟩ = some (.string (l.getD i ⟨#[]⟩))) ∧ w.cell? ⟨g, l.length, none⟩ = some (.string markS)
theorem Lent.below {w w' : World} {base : Nat} {v : Value} {l : List ByteArray} (h : Lent w base v l) (hb : Below w.heap.size w w') : Lent w' base v l := by
  obtain ⟨g, cap, rfl, h1, h2, h3, h4⟩ := h
  exact ⟨g, cap, rfl, h1, h2, fun i hi => (hb.cell (p := ⟨g, i, none⟩) (World.block_lt_of_cell? w _ (h3 i hi))).trans (h3 i hi), (hb.cell (p := ⟨g, l.length, none⟩) (World.block_lt_of_cell? w _ h4)).trans h4⟩
theorem Lent.reads {w : World} {base : Nat} {v : Value} {l : List ByteArray} (h : Lent w base v l) : Reads w v l := by
  obtain ⟨g, cap, rfl, h1, h2, h3, h4⟩ := h
  exact Or.inr ⟨⟨g, 0, none⟩, cap, rfl, fun i hi => ⟨g, 0, rfl, by rw [Nat.zero_add]; exact h3 i hi⟩⟩

theorem book_lentTexts (l : List ByteArray) (v : Value) (w : World) (h : Reads w v l) (hl : l.length ≤ 100000) :
    Calls Tryz.prog 5 #[v] w fun e w' => (∃ v', Lent w' w.heap.size v' l ∧ e = .returned v') ∧ Below w.heap.size w w' := by
  obtain ⟨i0, hi0, hz0, hz1, hz2⟩ := info_parts infoT
  have PC : Hid _ := own_copy l v w h (by omega)
  obtain ⟨oa, cap, rfl, _⟩ := h.shape
  go_enter Tryz.func5, Tryz.ntmps5
  go_wp2_with fail
  refine (Calls.mono PC.out ?_)
  rintro e w1 ⟨⟨v', hown, rfl⟩, b1⟩
  obtain ⟨au, cu, rfl⟩ : ∃ a c, v' = .slice a l.length c := by
    have := (own_seen hown).form
    rw [cellsT_len] at this
    exact this
  have hown' : (w1.alloc (.cells #[.string ⟨#[109, 97, 114, 107]⟩] 9)).ownsRow w.heap.size 9 1 (.slice au l.length cu) l.length (cellsT l) := hown.below ((Below.refl _ _).alloc (Nat.le_refl _) _)
  have b2 : Below w.heap.size w (w1.alloc (.cells #[.string ⟨#[109, 97, 114, 107]⟩] 9)) := b1.alloc b1.size _
  have hcl := cellsT_len l
  have hlt := b1.size
  clear hown PC
  go_wp2_with (first | (at_builtin; refine wpList_append_two _ rfl (.tmp 4) (.tmp 5) 23 rfl w.heap.size 9 i0 (.string ⟨#[]⟩) 1 16 Tryz.underlying23 hi0 hz0 hz1 hz2 rfl (by decide) (.slice au l.length cu) l.length (cellsT l) rfl hown' ⟨w1.heap.size, 0, none⟩ 1 1 [.string ⟨#[109, 97, 114, 107]⟩] rfl rfl (World.news_of_block (heap_alloc_new w1 _)) (by intro x hx; simp at hx; subst hx; rfl) (by unfold maxLen; omega) (by omega) (by have := b2.size; exact this) ?_))
  intro v' w2 hown2 hgrow2 hat
  have hbel : Below w.heap.size w w2 := b2.grown hgrow2 b2.size (fun k hk => (World.ownsRow.lt hown' k hk).1)
  rcases hown2.2 with ⟨_, h0⟩ | ⟨g, cap, cur, rfl, hb, hg, hnc, hcm, hcs, htake⟩
  · omega
  have hcell := fun j (hj : j < l.length + 1) => World.ownsRow.cellAt hown2 j (by omega)
  have hL : Hid (Lent w2 w.heap.size (.slice (some ⟨g, 0, none⟩) l.length cap) l) := by
    refine ⟨g, cap, rfl, hnc, hb, fun i hi => ?_, ?_⟩
    · rw [hcell i (by omega), List.getElem?_append_left (by rw [cellsT_len]; exact hi), cellsT_at l i hi]
    · rw [hcell l.length (by omega), List.getElem?_append_right (by rw [cellsT_len]; exact Nat.le_refl _), cellsT_len, Nat.sub_self]
      rfl
  have d1 : (l.length : Int) ≤ (cap : Int) := by omega
  have d2 : (0 : Int) ≤ (l.length : Int) := by omega
  clear hcell hown2 hgrow2 hat hcs htake hg hown' hcl
  generalize l.length = n at *
  go_wp2
  go_ret
  exact ⟨⟨_, hL.out, rfl⟩, hbel⟩

theorem book_staysTexts (l : List ByteArray) (base : Nat) (v u : Value) (w : World) (h : Lent w base v l) (hu : Reads w u l) (hl : l.length ≤ 100000) :
    Calls Tryz.prog 12 #[v, u] w fun e w' => e = .returned (.bool true) ∧ Below w.heap.size w w' := by
  have PS := book_sameReads l v u w h.reads hu (by omega)
  obtain ⟨g, cap, rfl, h1, h2, h3, h4⟩ := h
  have hlt : g < w.heap.size := World.block_lt_of_cell? w _ h4
  have d1 : (l.length : Int) + 1 ≤ (cap : Int) := by omega
  have d2 : (0 : Int) ≤ (l.length : Int) + 1 := by omega
  have d3 : (l.length : Int) < (l.length : Int) + 1 := by omega
  have d4 : (0 : Int) ≤ (l.length : Int) := by omega
  clear h3
  generalize hn : l.length = n at *
  go_enter Tryz.func12, Tryz.ntmps12
  go_wp2_with fail
  refine (Calls.mono PS ?_)
  rintro e w1 ⟨rfl, b1⟩
  have c1 : w1.cell? ⟨g, n, none⟩ = some (.string markS) := (b1.cell (p := ⟨g, n, none⟩) hlt).trans h4
  have e1 := str_beq_self markS
  clear h4 PS
  unfold markS at c1 e1
  go_wp2
  go_ret
  exact ⟨rfl, b1⟩

def agg5 (e : Int) (s : ByteArray) (nu ve : Int) (kv : Value) : Value := .agg #[.int .i64 e, .string s, .int .i64 nu, .int .i64 ve, kv]
theorem book_sameReply (e : Int) (s : ByteArray) (nu ve : Int) (l : List ByteArray) (va vb : Value) (w : World) (ha : Reads w va l) (hb : Reads w vb l) (hl : l.length ≤ 4611686018427387904) :
    Calls Tryz.prog 11 #[.agg #[.int .i64 e, .string s, .int .i64 nu, .int .i64 ve, va], .agg #[.int .i64 e, .string s, .int .i64 nu, .int .i64 ve, vb]] w fun r w' => r = .returned (.bool true) ∧ Below w.heap.size w w' := by
  have b2 : Below w.heap.size w ((w.alloc (.cells #[.int .i64 e, .string s, .int .i64 nu, .int .i64 ve, va] 25)).alloc (.cells #[.int .i64 e, .string s, .int .i64 nu, .int .i64 ve, vb] 25)) := ((Below.refl _ _).alloc (Nat.le_refl _) _).alloc (by simp) _
  have PS := fun w2 (hb2 : Below w.heap.size w w2) => book_sameReads l va vb w2 (ha.below hb2) (hb.below hb2) hl
  have PSH : Hid _ := PS
  obtain ⟨oa, ca, rfl, _⟩ := ha.shape
  obtain ⟨ob, cb, rfl, _⟩ := hb.shape
  have e1 := str_beq_self s
  clear PS ha hb
  go_enter Tryz.func11, Tryz.ntmps11
  go_wp2_with fail
  refine (Calls.mono (PSH.out _ b2) ?_)
  rintro r w1 ⟨rfl, b1⟩
  go_wp2
  go_ret
  exact ⟨rfl, bel_chain8 b2 b1⟩

end Go.Proofs.YtgcbanmjfnnccaaGreat
