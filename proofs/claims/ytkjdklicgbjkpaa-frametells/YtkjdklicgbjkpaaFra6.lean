/-
  The law FrameTells over contracts of package frame.
-/
import Derived.Test.YtkjdklicgbjkpaaFra5
namespace Go.Proofs.Ytkjdklicgbjkpaa
open Go.RowKit
set_option linter.unusedVariables false
set_option maxRecDepth 100000
set_option linter.unusedSimpArgs false

theorem dead_not (d : Bool) : (!d == d) = false := by cases d <;> rfl
theorem beq_not (d : Bool) : ((!d) == d) = false := by cases d <;> rfl
theorem bne_self9 (d : Bool) : (d != d) = false := by cases d <;> rfl
set_option maxRecDepth 100000 in
set_option maxHeartbeats 4000000 in
theorem frameTells_of (K : FrameKeeps) (oa : Option Addr) (n c : Nat) (L : Nat → List UInt8) (w : World) (hn : n ≤ maxLen) (hs : StrsAt w oa n L) :
    Calls Try.prog 3 #[.slice oa n c] w fun e w' => e = .returned (.bool true) ∧ Below w.heap.size w w' := by
  have PA : Hid _ := alive9_of K
  unfold maxLen at hn
  by_cases h40 : 40 < n
  · have d0 : decide (40 < (n : Int)) = true := by simp; omega
    go_enter Try.func3, Try.ntmps3
    go_wp2_with fail
    with_reducible refine (PA.out _).mono ?_
    rintro e w1 ⟨rfl, b1⟩
    go_wp2
    go_ret
    exact ⟨rfl, b1⟩
  have d0 : decide (40 < (n : Int)) = false := by simp; omega
  have h40' : n ≤ 40 := by omega
  clear hn h40
  have S0 : Hid (StrsAt w oa n L) := hs
  clear hs
  go_enter Try.func3, Try.ntmps3
  go_wp2_with fail
  with_reducible refine (PA.out _).mono ?_
  rintro e w1 ⟨rfl, b1⟩
  have hR := K.new w1
  have bN := reader_new w1
  have hz : (w1.alloc (.cells #[.string ⟨#[]⟩, .bool false, .int .i64 0] 31)).heap.size = w1.heap.size + 1 := by simp
  go_wp2_with fail
  generalize w1.alloc (.cells #[.string ⟨#[]⟩, .bool false, .int .i64 0] 31) = w2 at *
  have hB := book_newT w2
  have bB : Below w2.heap.size w2 (w2.alloc (.cells (rowT (.slice none 0 0) (.slice none 0 0)).toArray 41)) := (Below.refl _ _).alloc (Nat.le_refl _) _
  have hpq : w1.heap.size < w2.heap.size := (K.lt hR w1.heap.size rfl).2
  replace hB := hB.base (Nat.le_of_lt hpq)
  replace hR := K.below hR bB
  have B0 := bN.trans (bB.mono bN.size)
  clear bN bB
  unfold rowT at hB hR B0
  generalize w2.alloc (.cells [Value.slice none 0 0, .slice none 0 0, .slice none 0 0, .slice none 0 0, .slice none 0 0, .slice none 0 0, .slice none 0 0, .slice none 0 0, .slice none 0 0, .slice none 0 0, .slice none 0 0, .slice none 0 0, .slice none 0 0, .slice none 0 0].toArray 41) = w3 at *
  have hT : Tel K w1.heap.size w1.heap.size w2.heap.size 0 ⟨#[]⟩ false w3 := ⟨_, _, _, _, _, _, hR, hB, rfl, fun i m h => by simp at h, fun j hj => ⟨by omega, fun u hu => by simp at hu; rw [hu]; simp [Value.ownBlock]⟩⟩
  have hle1 := b1.size
  clear hR hB
  rw [hz] at hT
  clear hz hpq
  go_loopw [4, 5, 7] (fun l d i wr => ∃ (k : Nat) (left : ByteArray) (dead : Bool), k ≤ n ∧ l = .string left ∧ d = .bool dead ∧ i = .int .i64 k ∧ Hid (dead = true → left = ⟨#[]⟩) ∧ left.size < 2202 ∧ Tel K w1.heap.size w1.heap.size (w1.heap.size + 1) k left dead wr ∧ Below w1.heap.size w1 wr) (fun _ _ i _ => n - (intOf i).toNat)
  case atStart => exact ⟨0, ⟨#[]⟩, false, by omega, rfl, rfl, rfl, (fun h => by cases h), by decide, hT, B0⟩
  case round =>
    clear hT B0
    obtain ⟨k, left, dead, hk, rfl, rfl, rfl, hdl, hll, hT, B⟩ := hrel
    by_cases hlt : k < n
    · have hbel := b1.trans (B.mono hle1)
      obtain ⟨bb, oo, rfl, hc⟩ := S0.out.later hbel k hlt
      have HL : Hid (∀ w', Below w1.heap.size w1 w' → w'.cell? ⟨bb, oo + k, none⟩ = some (.string (str (L k)))) := by
        intro w' hb
        obtain ⟨b', o', h1, h2⟩ := S0.out.later (b1.trans (hb.mono hle1)) k hlt
        simp only [Option.some.injEq, Addr.mk.injEq] at h1
        obtain ⟨rfl, rfl, _⟩ := h1
        exact h2
      clear S0
      have dlt : decide ((k : Int) < (n : Int)) = true := by simp; omega
      have dlt2 : (k : Int) < (n : Int) := by omega
      generalize str (L k) = S at *
      by_cases hlong : 3000 < S.size
      · have d1 : decide (3000 < (S.size : Int)) = true := by simp; omega
        go_wp2
        go_ret
        exact ⟨rfl, hbel⟩
      have d1 : decide (3000 < (S.size : Int)) = false := by simp; omega
      obtain ⟨bl, vo, wo, vs, ws, ls, hR, hB, hvk, hls, hap⟩ := hT
      have hBs := B.size
      cases dead with
      | true =>
        obtain rfl := hdl.out rfl
        go_wp2_with fail
        with_reducible refine (K.gone _ bl w1.heap.size S hR).mono ?_
        rintro e w4 ⟨v1, bl1, hv1, rfl, hR1, hb1, t1⟩
        obtain ⟨hB2, hf, hv2⟩ := tel_mid hB hap t1 hv1 hBs
        have B4 := B.trans (K.bel hR t1 (Nat.le_refl _) hBs)
        go_wp2_with fail
        have hN : vs.length < 250 := by omega
        have hP := book_textsO w1.heap.size (w1.heap.size + 1) vo wo vs ws ls v1 [] _ hB2 hv2 hf hN (by simp) B4.size
        with_reducible refine hP.mono ?_
        rintro e w5 ⟨rfl, ⟨vo', wo', u, hB3, ol⟩, t3⟩
        obtain ⟨hR3, hap3⟩ := tel_next K hB hap hR1 hb1 ol t3
        have B5 := B4.trans (hB2.touched t3 B4.size)
        obtain ⟨a1, c1, rfl⟩ := hv1.shape
        clear hP hB hR hB2 hR1 hf hv2 hv1 t1 t3 hb1 hap ol
        go_wp2_with fail
        with_reducible refine (K.dead _ bl1 w1.heap.size _ _ hR3).mono ?_
        rintro e w6 ⟨rfl, hR6, t6⟩
        replace hB3 := hB3.touch t6 hap3
        have B6 := B5.trans (K.bel hR3 t6 (Nat.le_refl _) B5.size)
        go_wp2_with fail
        with_reducible refine (K.waits _ bl1 w1.heap.size _ _ hR6).mono ?_
        rintro e w7 ⟨rfl, hR7, t7⟩
        replace hB3 := hB3.touch t7 hap3
        have B7 := B6.trans (K.bel hR6 t7 (Nat.le_refl _) B6.size)
        go_wp2
        go_roundw
        case rel =>
          refine ⟨k + 1, ⟨#[]⟩, true, by omega, rfl, rfl, by go_num, (fun _ => rfl), by decide, ⟨bl1, vo', wo', _, _, _, hR7, hB3, by simp [hvk], ?_, hap3⟩, B7⟩
          intro i m hm
          have hmm := List.mem_of_getElem? hm
          rcases List.mem_append.1 hmm with h | h
          · obtain ⟨i', hi'⟩ := List.getElem?_of_mem h
            exact hls i' m hi'
          · simp at h; subst h; simp
        case measure => simp [intOf]; omega
      | false =>
        have hcat : (left ++ S).size = left.size + S.size := ByteArray.size_append ..
        have hsum : left.size + S.size ≤ 1000000 := by omega
        have PF : Hid _ := fun w => ref_frames (left ++ S) w (by omega)
        have PL := K.live _ bl w1.heap.size left S hR hsum
        have hml := many_frames (left ++ S)
        have HD : Hid (deadS (left ++ S) = true → leftS (left ++ S) = ⟨#[]⟩) := dead_left (left ++ S)
        have hlf := (left_lt (left ++ S)).2
        rw [hcat] at hml
        have hfs : (framesS (left ++ S)).length ≤ 10000 := by omega
        have hnl : ¬ (9223372036854775807 < left.size + S.size) := by omega
        clear hml hdl
        generalize framesS (left ++ S) = fs at *
        generalize leftS (left ++ S) = Lf at *
        generalize deadS (left ++ S) = D at *
        have g1 : (!D == D) = false := by cases D <;> rfl
        have g2 : (D != D) = false := by cases D <;> rfl
        go_wp2_with fail
        with_reducible refine PL.mono ?_
        rintro e w4 ⟨v1, bl1, hv1, rfl, hR1, hb1, t1⟩
        obtain ⟨hB2, hf, hv2⟩ := tel_mid hB hap t1 hv1 hBs
        have B4 := B.trans (K.bel hR t1 (Nat.le_refl _) hBs)
        go_wp2_with fail
        have hN : vs.length < 250 := by omega
        have hP := book_textsO w1.heap.size (w1.heap.size + 1) vo wo vs ws ls v1 fs _ hB2 hv2 hf hN (by omega) B4.size
        with_reducible refine hP.mono ?_
        rintro e w5 ⟨rfl, ⟨vo', wo', u, hB3, ol⟩, t3⟩
        obtain ⟨hR3, hap3⟩ := tel_next K hB hap hR1 hb1 ol t3
        have B5 := B4.trans (hB2.touched t3 B4.size)
        have hlv : ls.length = k := by rw [← hB.lenV, hvk]
        have c5 := HL.out _ B5
        clear hP hB hR hB2 hR1 hf hv2 hv1 t1 t3 hb1 hap ol PL B B4 hc
        go_wp2_with fail
        with_reducible refine (PF.out _).mono ?_
        rintro e w6 ⟨⟨v2, hv2, rfl⟩, b6⟩
        replace hB3 := hB3.below b6
        replace hR3 := K.below hR3 b6
        have B6 := B5.trans (b6.mono B5.size)
        have s1 : Seen w6 v1 (cellsT fs) := (hB3.eachV k v1 fs (by rw [List.getElem?_append_right (by omega), hvk, Nat.sub_self]; rfl) (by rw [List.getElem?_append_right (by omega), hlv, Nat.sub_self]; rfl)).seen
        have PQ := book_sameTexts fs v1 v2 w6 s1 hv2.seen (by omega)
        clear b6 B5 c5
        go_wp2_with fail
        with_reducible refine PQ.mono ?_
        rintro e w7 ⟨rfl, b7⟩
        replace hB3 := hB3.below b7
        replace hR3 := K.below hR3 b7
        have B7 := B6.trans (b7.mono B6.size)
        clear b7 B6 PQ s1 hv2
        go_wp2_with fail
        with_reducible refine (K.dead _ bl1 w1.heap.size _ _ hR3).mono ?_
        rintro e w8 ⟨rfl, hR6, t6⟩
        replace hB3 := hB3.touch t6 hap3
        have B8 := B7.trans (K.bel hR3 t6 (Nat.le_refl _) B7.size)
        clear t6 B7 hR3
        go_wp2_with fail
        with_reducible refine (K.waits _ bl1 w1.heap.size _ _ hR6).mono ?_
        rintro e w9 ⟨rfl, hR7, t7⟩
        replace hB3 := hB3.touch t7 hap3
        have B9 := B8.trans (K.bel hR6 t7 (Nat.le_refl _) B8.size)
        clear t7 B8 hR6
        go_wp2
        go_roundw
        case rel =>
          refine ⟨k + 1, Lf, D, by omega, rfl, rfl, by go_num, HD, hlf, ⟨bl1, vo', wo', _, _, _, hR7, hB3, by simp [hvk], ?_, hap3⟩, B9⟩
          intro i m hm
          have hmm := List.mem_of_getElem? hm
          rcases List.mem_append.1 hmm with h | h
          · obtain ⟨i', hi'⟩ := List.getElem?_of_mem h
            exact hls i' m hi'
          · simp at h; subst h; exact hfs
        case measure => simp [intOf]; omega
    · have dlt : decide ((k : Int) < (n : Int)) = false := by simp; omega
      obtain ⟨bl, vo, wo, vs, ws, ls, hR, hB, hvk, hls, hap⟩ := hT
      clear hR hap S0 hdl hll
      go_wp2_with fail
      with_reducible refine (K.feedNil _ _).mono ?_
      rintro e w4 ⟨v1, hv1, rfl, b4⟩
      obtain ⟨a1, c1, rfl⟩ := hv1.shape
      replace hB := hB.below b4
      have B4 := B.trans (b4.mono B.size)
      clear b4 B hv1
      go_wp2_with fail
      with_reducible refine (K.deadNil _).mono ?_
      rintro e w5 ⟨rfl, b5⟩
      replace hB := hB.below b5
      have B5 := B4.trans (b5.mono B4.size)
      clear b5 B4
      go_wp2_with fail
      with_reducible refine (K.waitsNil _).mono ?_
      rintro e w6 ⟨rfl, b6⟩
      replace hB := hB.below b6
      have B6 := B5.trans (b6.mono B5.size)
      clear b6 B5
      have hN : vs.length ≤ 1000 := by omega
      have hP := book_apartT w1.heap.size (w1.heap.size + 1) vo wo vs ws ls _ hB hN (fun i l hl => by have := hls i l hl; omega) B6.size
      go_wp2_with fail
      with_reducible refine hP.mono ?_
      rintro e w7 ⟨rfl, b7⟩
      have B7 := B6.trans b7
      clear hP hB B6 b7
      go_wp2
      go_ret
      exact ⟨rfl, b1.trans (B7.mono hle1)⟩

end Go.Proofs.Ytkjdklicgbjkpaa
