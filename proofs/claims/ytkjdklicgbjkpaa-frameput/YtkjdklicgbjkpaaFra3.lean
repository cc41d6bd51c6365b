/-
  The reference's Frame and Frames.
-/
import Derived.Test.YtkjdklicgbjkpaaFra2
import Derived.Test.YtkjdklicgbjkpaaOct3
import Derived.Test.YtkjdklicgbjkpaaOct5
import Derived.Test.YtkjdklicgbjkpaaBokT1
namespace Go.Proofs.Ytkjdklicgbjkpaa
open Go.RowKit
set_option linter.unusedVariables false
set_option maxRecDepth 100000
set_option linter.unusedSimpArgs false

/-- How long a text is that a slot holds (for a loop's measure). -/
def sLen : Value → Nat
  | .string t => t.size
  | _ => 0
theorem sLen_is (t : ByteArray) : sLen (.string t) = t.size := rfl
theorem ret_sb9 {a b : ByteArray} {c d : Bool} (h : a = b) (h' : c = d) : Ending.returned (.tuple #[.string a, .bool c]) = .returned (.tuple #[.string b, .bool d]) := by rw [h, h']
theorem ret_vsb {v : Value} {a b : ByteArray} {c d : Bool} (h : a = b) (h' : c = d) : Ending.returned (.tuple #[v, .string a, .bool c]) = .returned (.tuple #[v, .string b, .bool d]) := by rw [h, h']
theorem putFS_cat (b : ByteArray) (h1 : 1 ≤ b.size) (h2 : b.size ≤ 2200) : putBigS (b.size : Int) 2 ++ b = putFS b := by
  rw [(putFS_yes b h1 h2).2.1, putFL, putBigS]
  have hl : b.data.toList.length = b.size := by simp
  rw [hl, ← str_back (str (putBig (b.size : Int) 2) ++ b), cat_list]
  rfl

theorem ref_frame (b : ByteArray) (w : World) (hb : b.size ≤ 1000000) :
    Calls Try.prog 18 #[.string b] w fun e w' => e = .returned (.tuple #[.string (putFS b), .bool (putFOk b)]) ∧ Below w.heap.size w w' := by
  by_cases h1 : b.size < 1
  · obtain ⟨e1, e2⟩ := putFS_no b (by omega)
    rw [e1, e2]
    have d1 : decide ((b.size : Int) < 1) = true := by simp; omega
    clear e1 e2
    go_enter Try.func18, Try.ntmps18
    go_wp2
    go_ret2
    exact ⟨rfl, Below.refl _ _⟩
  · have d1 : decide ((b.size : Int) < 1) = false := by simp; omega
    by_cases h2 : b.size ≤ 2200
    · have d2 : decide (2200 < (b.size : Int)) = false := by simp; omega
      have e := putFS_yes b (by omega) h2
      have P1 : Hid _ := fun w => ref_putBig (b.size : Int) 2 w (by omega) (by omega)
      have HS : Hid (putBigS (b.size : Int) 2 ++ b = putFS b ∧ true = putFOk b) := ⟨putFS_cat b (by omega) h2, e.1.symm⟩
      have z1 : (putBigS (b.size : Int) 2).size = 2 := by rw [putBigS, str_size, putBig2_len]
      clear e
      generalize putBigS (b.size : Int) 2 = H at *
      go_enter Try.func18, Try.ntmps18
      go_wp2_with fail
      with_reducible refine (P1.out _).mono ?_
      rintro e w1 ⟨rfl, b1⟩
      go_wp2
      go_ret2
      exact ⟨ret_sb9 HS.out.1 HS.out.2, b1⟩
    · have d2 : decide (2200 < (b.size : Int)) = true := by simp; omega
      obtain ⟨e1, e2⟩ := putFS_no b (by omega)
      rw [e1, e2]
      clear e1 e2
      go_enter Try.func18, Try.ntmps18
      go_wp2
      go_ret2
      exact ⟨rfl, Below.refl _ _⟩

theorem slice_mid9 (b : ByteArray) (n : Nat) (w : World) (h : 2 + n ≤ b.size) :
    (Instr.slice 9 (.string b) (some (.int .i64 2)) (some (.int .i64 (2 + (n : Int)))) none).run Try.prog w = .ok (.string (b.extract 2 (2 + n))) w := by
  have h := run_slice_string (P := Try.prog) w 9 b .i64 .i64 2 (2 + (n : Int)) Try.underlying9 (by omega) (by omega) (by omega)
  rw [h]
  congr 2
theorem slice_end9 (b : ByteArray) (n : Nat) (w : World) (h : 2 + n ≤ b.size) :
    (Instr.slice 9 (.string b) (some (.int .i64 (2 + (n : Int)))) none none).run Try.prog w = .ok (.string (b.extract (2 + n) b.size)) w := by
  rw [run_slice_string_l (P := Try.prog) w 9 b Try.underlying9 .i64 (2 + (n : Int)) (by omega) (by omega)]
  congr 2

set_option maxRecDepth 100000 in
set_option maxHeartbeats 1000000 in
theorem ref_frames (s : ByteArray) (w : World) (hs : s.size ≤ 1000000) :
    Calls Try.prog 14 #[.string s] w fun e w' => (∃ v, OwnT w' w.heap.size v (framesS s) ∧ e = .returned (.tuple #[v, .string (leftS s), .bool (deadS s)])) ∧ Below w.heap.size w w' := by
  obtain ⟨i0, hi0, hz0, hz1, hz2⟩ := info_parts infoT
  have hnil : OwnT w w.heap.size (.slice none 0 0) [] := World.ownsRow_nil w _ _ _
  go_enter Try.func14, Try.ntmps14
  go_wp2_with fail
  go_loopw [0, 5] (fun b v wr => ∃ (t : ByteArray) (fs : List ByteArray), b = .string t ∧ OwnT wr w.heap.size v fs ∧ Hid (fs ++ framesS t = framesS s ∧ leftS t = leftS s ∧ deadS t = deadS s) ∧ t.size + fs.length ≤ 1000000 ∧ Below w.heap.size w wr) (fun b _ _ => sLen b)
  case atStart => exact ⟨s, [], rfl, hnil, ⟨rfl, rfl, rfl⟩, by simpa using hs, Below.refl _ _⟩
  case round =>
    clear hnil
    obtain ⟨t, fs, rfl, hown, HF, hsz, hbel⟩ := hrel
    by_cases h2 : t.size < 2
    · have d1 : decide (2 ≤ (t.size : Int)) = false := by simp; omega
      have E := frames_short t h2
      have HE : Hid _ := E
      clear E
      go_wp2
      go_ret3
      exact ⟨⟨_, by rw [← HF.out.1, HE.out.1, List.append_nil]; exact hown, ret_vsb (by rw [← HF.out.2.1, HE.out.2.1]) (by rw [← HF.out.2.2, HE.out.2.2])⟩, hbel⟩
    · have d1 : decide (2 ≤ (t.size : Int)) = true := by simp; omega
      have d0 : (2 : Int) ≤ (t.size : Int) := by omega
      have hx : (t.extract 0 2).size = 2 := by simp; omega
      have hB := fun w => ref_big (t.extract 0 2) w (by unfold maxLen; omega)
      rw [← headN_is t] at hB
      have PB : Hid _ := hB
      have hh := headN_lt t (by omega)
      have EB : Hid _ := frames_bad t (by omega)
      have EP : Hid _ := frames_part t (by omega)
      have EF : Hid _ := frames_full t (by omega)
      clear hB
      generalize headN t = N at *
      by_cases hz : N = 0
      · subst hz
        have HE : Hid _ := EB.out (Or.inl rfl)
        go_wp2_with fail
        with_reducible refine (PB.out _).mono ?_
        rintro e w' ⟨rfl, rfl⟩
        go_wp2
        go_ret3
        exact ⟨⟨_, by rw [← HF.out.1, HE.out.1, List.append_nil]; exact hown, ret_vsb (by rw [← HF.out.2.1, HE.out.2.1]) (by rw [← HF.out.2.2, HE.out.2.2])⟩, hbel⟩
      · have n0 : ((N : Int) == 0) = false := by simpa using hz
        by_cases hg : 2200 < N
        · have n1 : decide (2200 < (N : Int)) = true := by simp; omega
          have HE : Hid _ := EB.out (Or.inr hg)
          go_wp2_with fail
          with_reducible refine (PB.out _).mono ?_
          rintro e w' ⟨rfl, rfl⟩
          go_wp2
          go_ret3
          exact ⟨⟨_, by rw [← HF.out.1, HE.out.1, List.append_nil]; exact hown, ret_vsb (by rw [← HF.out.2.1, HE.out.2.1]) (by rw [← HF.out.2.2, HE.out.2.2])⟩, hbel⟩
        · have n1 : decide (2200 < (N : Int)) = false := by simp; omega
          have hw : wrap64 (2 + (N : Int)) = 2 + (N : Int) := IntWalk.wrap64_in _ ⟨by omega, by omega⟩
          by_cases hp : t.size < 2 + N
          · have n2 : decide ((t.size : Int) < 2 + (N : Int)) = true := by simp; omega
            have HE : Hid _ := EP.out (by omega) hp
            go_wp2_with fail
            with_reducible refine (PB.out _).mono ?_
            rintro e w' ⟨rfl, rfl⟩
            go_wp2
            go_ret3
            exact ⟨⟨_, by rw [← HF.out.1, HE.out.1, List.append_nil]; exact hown, ret_vsb (by rw [← HF.out.2.1, HE.out.2.1]) (by rw [← HF.out.2.2, HE.out.2.2])⟩, hbel⟩
          · have n2 : decide ((t.size : Int) < 2 + (N : Int)) = false := by simp; omega
            have HE : Hid _ := EF.out (by omega) hp
            have S1 := fun w => slice_mid9 t N w (by omega)
            have S2 := fun w => slice_end9 t N w (by omega)
            have hsz2 : (t.extract (2 + N) t.size).size = t.size - (2 + N) := by simp
            clear EB EP EF
            have HN : Hid (N ≠ 0) := hz
            obtain ⟨m, hm⟩ : ∃ m, fs.length = m := ⟨_, rfl⟩
            have HM : Hid (fs.length = m) := hm
            rw [hm] at hsz
            obtain ⟨ao, co, rfl⟩ : ∃ a c, u5 = .slice a m c := by
              have := OwnT.shape hown
              rw [hm] at this
              exact this
            have hown' : wr.ownsRow w.heap.size 9 1 (.slice ao m co) m (cellsT fs) := by unfold OwnT at hown; rwa [hm] at hown
            clear hm hown hz
            go_wp2_with fail
            with_reducible refine (PB.out _).mono ?_
            rintro e w' ⟨rfl, rfl⟩
            generalize t.extract 2 (2 + N) = X at *
            generalize t.extract (2 + N) t.size = Y at *
            go_wp2_with (first | (at_builtin; refine wpList_append_lies _ rfl (.tmp 28) (.tmp 33) 22 rfl w.heap.size 9 i0 (.string ⟨#[]⟩) 1 16 Try.underlying22 hi0 hz0 hz1 hz2 rfl (by decide) (.slice ao m co) m (cellsT fs) rfl (hown'.alloc _) ⟨wr.heap.size, 0, none⟩ 1 1 (cellsT [X]) rfl rfl (World.news_of_block (heap_alloc_new wr _)) (cellsT_one _) (by decide) (by unfold maxLen; omega) (by omega) (by have := hbel.size; simp; omega) _ rfl ?_))
            intro g2 cap2 w2 hown2 hgrow2 hat hlt2
            go_wp2
            go_roundw
            case rel =>
              refine ⟨Y, fs ++ [X], rfl, ?_, ⟨by rw [← HF.out.1, HE.out.1, List.append_assoc]; rfl, by rw [← HF.out.2.1, HE.out.2.1], by rw [← HF.out.2.2, HE.out.2.2]⟩, by rw [List.length_append, HM.out, hsz2]; simp; omega, ?_⟩
              · unfold OwnT
                rw [cellsT_append, List.length_append, HM.out]
                exact hown2
              · have hz := hbel.size
                exact (hbel.alloc (by omega) _).grown hgrow2 (by simp; omega) (fun j hj => (hown'.lt j hj).1)
            case measure => rw [sLen_is, sLen_is, hsz2]; omega

end Go.Proofs.Ytkjdklicgbjkpaa
