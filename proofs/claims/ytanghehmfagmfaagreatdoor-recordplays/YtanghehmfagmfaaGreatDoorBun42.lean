/-
  Parts of this proof, one behind the other: Cut0, Cut1, Rec14, Rec15, Rec16, Rec17.
-/
import Derived.Test.YtanghehmfagmfaaGreatDoorBun18
import Derived.Test.YtanghehmfagmfaaGreatDoorBun37
import Derived.Test.YtanghehmfagmfaaGreatDoorBun26
import Derived.Test.YtanghehmfagmfaaGreatDoorBun36
import Derived.Deep.CutRange
import Derived.Test.YtanghehmfagmfaaGreatDoorBun29

/-
  One region that draws its order: the reference's In lets one element of a list go (the numbers).
-/
namespace Go.Proofs.YtanghehmfagmfaaGreatDoor
open Go.RowKit
set_option linter.unusedVariables false
set_option maxRecDepth 100000
set_option linter.unusedSimpArgs false

def cutIL : List (Option Tmp × Op) :=
  [(some 105, .move (.tmp 0)),
   (some 106, .move (.tmp 0)),
   (some 107, .nilCheck (.tmp 106)),
   (some 108, .fieldAddr 33 (.tmp 107) 2),
   (some 109, .load 30 (.tmp 108)),
   (some 110, .move (.tmp 11)),
   (some 111, .slice 30 (.tmp 109) none (some (.tmp 110)) none),
   (some 112, .call { callee := .builtin .append, args := #[.const (.slice none 0 0), .tmp 111], argTypes := #[30, 30] }),
   (some 113, .move (.tmp 0)),
   (some 114, .nilCheck (.tmp 113)),
   (some 115, .fieldAddr 33 (.tmp 114) 2),
   (some 116, .load 30 (.tmp 115)),
   (some 117, .move (.tmp 11)),
   (some 118, .binOp .add 3 (.tmp 117) (.const (.int .i64 1)) 3),
   (some 119, .slice 30 (.tmp 116) (some (.tmp 118)) none none),
   (some 120, .call { callee := .builtin .append, args := #[.tmp 112, .tmp 119], argTypes := #[30, 30] }),
   (some 121, .nilCheck (.tmp 105)),
   (some 122, .fieldAddr 33 (.tmp 121) 2),
   (none, .store 30 (.tmp 122) (.tmp 120))]
def cutIW : List (List Nat) :=
  [[], [], [1], [2], [3], [], [4, 5], [6], [], [8], [9], [10], [], [12], [11, 13], [7, 14], [0, 1, 2, 3, 4, 5, 6, 7, 8, 9, 10, 11, 12, 13, 14, 15], [0, 1, 2, 3, 4, 5, 6, 7, 8, 9, 10, 11, 12, 13, 14, 15, 16], [0, 1, 2, 3, 4, 5, 6, 7, 8, 9, 10, 11, 12, 13, 14, 15, 17]]

set_option maxHeartbeats 1000000 in
theorem cutI_region {id : Nat} {ops : Array Oper} {Q : Exit → Act → World → Prop} {a0 : Act} {w : World} (r g N cap k : Nat) (x0 x1 y : Value) (cs : List Value) (h1cs : ∀ u ∈ cs, u.oneCell' = true)
    (hkN : k < N) (hN : N ≤ 1000) (hcs : cs.length = N)
    (hok : regOk ops 149 = true) (hk : kinds ops = cutIL) (hL : waitsL ops = cutIW) (hsz : a0.tmps.size = 149)
    (h0 : a0.eval (.tmp 0) = .pointer (some ⟨r, 0, none⟩)) (h11 : a0.eval (.tmp 11) = .int .i64 (k : Int))
    (hrow : RowIs w r 33 [x0, x1, .slice (some ⟨g, 0, none⟩) N cap, y]) (ho : w.ownsRow 0 3 1 (.slice (some ⟨g, 0, none⟩) N cap) N cs) (hgr : g ≠ r)
    (hend : ∀ (v105 v106 v107 v108 v109 v110 v111 v112 v113 v114 v115 v116 v117 v118 v119 v120 v121 v122 : Value) w5, w5.ownsRow w.heap.size 3 1 v120 (N - 1) (cs.take k ++ cs.drop (k + 1)) → RowIs w5 r 33 [x0, x1, v120, y] → Touch (fun n => n = r) w w5 →
      Q .normal ((((((((((((((((((a0.put (some 105) v105).put (some 106) v106).put (some 107) v107).put (some 108) v108).put (some 109) v109).put (some 110) v110).put (some 111) v111).put (some 112) v112).put (some 113) v113).put (some 114) v114).put (some 115) v115).put (some 116) v116).put (some 117) v117).put (some 118) v118).put (some 119) v119).put (some 120) v120).put (some 121) v121).put (some 122) v122) w5) :
    (Code.region id ops true).wp Tryz.prog Q a0 w := by
  obtain ⟨i0, hi0, hz0, hz1, hz2⟩ := info_parts infoI
  have hrlt := hrow.lt
  have hNcap : N ≤ cap := by
    rcases ho.2 with ⟨h, _⟩ | ⟨g', cap', cur, h, _, _, h2, _⟩
    · cases h
    · simp only [Value.slice.injEq, true_and] at h
      rw [h.2]; exact h2
  obtain ⟨A, X, hX, hXe, hAx⟩ : ∃ (A : Addr) (X : Value), X = .slice (some A) (N - (k + 1)) (cap - (k + 1)) ∧ (∀ w : World, (Instr.slice 30 (.slice (some ⟨g, 0, none⟩) N cap) (some (.int .i64 ((k : Int) + 1))) none none).run Tryz.prog w = .ok X w) ∧ (k + 1 < N → A = ⟨g, k + 1, none⟩) := by
    have hrun := fun w : World => run_slice_l (P := Tryz.prog) w 30 (some ⟨g, 0, none⟩) N cap Tryz.underlying30 .i64 ((k : Int) + 1) (by omega) (by omega)
    have hs : ∀ w, (sizeOf (Tryz.prog.elem 30)).run Tryz.prog w = .ok 1 w := fun w => Tryz.sizeOf3 w
    by_cases hc : cap = k + 1
    · refine ⟨⟨g, 0, none⟩, _, rfl, fun w => ?_, fun h => absurd h (by omega)⟩
      rw [hrun w, hs]
      simp [Result.andThen, sliced, hc]
    · refine ⟨⟨g, k + 1, none⟩, _, rfl, fun w => ?_, fun _ => rfl⟩
      rw [hrun w, hs]
      have e : ((k : Int) + 1).toNat = k + 1 := by omega
      simp [Result.andThen, sliced, hc, e, Addr.add]
      try omega
  have hXto : ∀ w : World, (Instr.slice 30 (.slice (some ⟨g, 0, none⟩) N cap) none (some (.int .i64 (k : Int))) none).run Tryz.prog w = .ok (.slice (some ⟨g, 0, none⟩) k cap) w := fun w => by
    have hrun := run_slice_h (P := Tryz.prog) w 30 (some ⟨g, 0, none⟩) N cap Tryz.underlying30 .i64 (k : Int) (by omega) (by omega)
    have hs : (sizeOf (Tryz.prog.elem 30)).run Tryz.prog w = .ok 1 w := Tryz.sizeOf3 w
    rw [hrun, hs]
    simp [Result.andThen, sliced]
    try (intro _; exact addr_addC g 0 0)
  have d1 : IntKind.i64.wrap ((k : Int) + 1) = (k : Int) + 1 := by rw [IntKind.wrap_i64]; omega
  obtain ⟨F, hF⟩ : ∃ F : List (Value → World → Prop), F = [fun v _ => v = .pointer (some ⟨r, 0, none⟩),
    fun v _ => v = .pointer (some ⟨r, 0, none⟩),
    fun v _ => v = .pointer (some ⟨r, 0, none⟩),
    fun v _ => v = .pointer (some ⟨r, 2, none⟩),
    fun v _ => v = .slice (some ⟨g, 0, none⟩) N cap,
    fun v _ => v = .int .i64 (k : Int),
    fun v _ => v = .slice (some ⟨g, 0, none⟩) k cap,
    fun v w5 => w5.ownsRow w.heap.size 3 1 v k (cs.take k),
    fun v _ => v = .pointer (some ⟨r, 0, none⟩),
    fun v _ => v = .pointer (some ⟨r, 0, none⟩),
    fun v _ => v = .pointer (some ⟨r, 2, none⟩),
    fun v _ => v = .slice (some ⟨g, 0, none⟩) N cap,
    fun v _ => v = .int .i64 (k : Int),
    fun v _ => v = .int .i64 ((k : Int) + 1),
    fun v _ => v = X,
    fun _ _ => True,
    fun v _ => v = .pointer (some ⟨r, 0, none⟩),
    fun v _ => v = .pointer (some ⟨r, 2, none⟩),
    fun _ _ => True] := ⟨_, rfl⟩
  obtain ⟨R0, hR0d⟩ : ∃ R0 : World → Prop, R0 = fun w5 => Touch (fun n => n = r) w w5 ∧ RowIs w5 r 33 [x0, x1, .slice (some ⟨g, 0, none⟩) N cap, y] ∧ w5.ownsRow 0 3 1 (.slice (some ⟨g, 0, none⟩) N cap) N cs := ⟨_, rfl⟩
  obtain ⟨R1, hR1d⟩ : ∃ R1 : Value → World → Prop, R1 = fun v w5 => Touch (fun n => n = r) w w5 ∧ RowIs w5 r 33 [x0, x1, .slice (some ⟨g, 0, none⟩) N cap, y] ∧ w5.ownsRow w.heap.size 3 1 v (N - 1) (cs.take k ++ cs.drop (k + 1)) := ⟨_, rfl⟩
  obtain ⟨R2, hR2d⟩ : ∃ R2 : Value → World → Prop, R2 = fun v w5 => Touch (fun n => n = r) w w5 ∧ RowIs w5 r 33 [x0, x1, v, y] ∧ w5.ownsRow w.heap.size 3 1 v (N - 1) (cs.take k ++ cs.drop (k + 1)) := ⟨_, rfl⟩
  have st0 : StepV Tryz.prog Q cutIL cutIW F a0 15 0 := by
    subst hF
    intro o hd ho a w hout hJ
    exact st_w hd (run_move' ho ((hout 0 (by decide)).trans h0) w) ⟨w, rfl⟩
  have st1 : StepV Tryz.prog Q cutIL cutIW F a0 15 1 := by
    subst hF
    intro o hd ho a w hout hJ
    exact st_w hd (run_move' ho ((hout 0 (by decide)).trans h0) w) ⟨w, rfl⟩
  have st8 : StepV Tryz.prog Q cutIL cutIW F a0 15 8 := by
    subst hF
    intro o hd ho a w hout hJ
    exact st_w hd (run_move' ho ((hout 0 (by decide)).trans h0) w) ⟨w, rfl⟩
  have st5 : StepV Tryz.prog Q cutIL cutIW F a0 15 5 := by
    subst hF
    intro o hd ho a w hout hJ
    exact st_w hd (run_move' ho ((hout 11 (by decide)).trans h11) w) ⟨w, rfl⟩
  have st12 : StepV Tryz.prog Q cutIL cutIW F a0 15 12 := by
    subst hF
    intro o hd ho a w hout hJ
    exact st_w hd (run_move' ho ((hout 11 (by decide)).trans h11) w) ⟨w, rfl⟩
  have st2 : StepV Tryz.prog Q cutIL cutIW F a0 15 2 := by
    subst hF
    intro o hd ho a w hout hJ
    exact st_w hd (run_nil' ho (show a.eval (.tmp 106) = .pointer (some ⟨r, 0, none⟩) from ex_v (hJ 1 (by decide) (by decide))) w) ⟨w, rfl⟩
  have st9 : StepV Tryz.prog Q cutIL cutIW F a0 15 9 := by
    subst hF
    intro o hd ho a w hout hJ
    exact st_w hd (run_nil' ho (show a.eval (.tmp 113) = .pointer (some ⟨r, 0, none⟩) from ex_v (hJ 8 (by decide) (by decide))) w) ⟨w, rfl⟩
  have st16 : StepV Tryz.prog Q cutIL cutIW F a0 15 16 := by
    subst hF
    intro o hd ho a w hout hJ
    exact st_w hd (run_nil' ho (show a.eval (.tmp 105) = .pointer (some ⟨r, 0, none⟩) from ex_v (hJ 0 (by decide) (by decide))) w) ⟨w, rfl⟩
  have st3 : StepV Tryz.prog Q cutIL cutIW F a0 15 3 := by
    subst hF
    intro o hd ho a w hout hJ
    exact st_w hd (run_field' (n := 0) ho (show a.eval (.tmp 107) = .pointer (some ⟨r, 0, none⟩) from ex_v (hJ 2 (by decide) (by decide))) Tryz.underlying33 rfl (by kernel_rfl) w) ⟨w, rfl⟩
  have st10 : StepV Tryz.prog Q cutIL cutIW F a0 15 10 := by
    subst hF
    intro o hd ho a w hout hJ
    exact st_w hd (run_field' (n := 0) ho (show a.eval (.tmp 114) = .pointer (some ⟨r, 0, none⟩) from ex_v (hJ 9 (by decide) (by decide))) Tryz.underlying33 rfl (by kernel_rfl) w) ⟨w, rfl⟩
  have st17 : StepV Tryz.prog Q cutIL cutIW F a0 15 17 := by
    subst hF
    intro o hd ho a w hout hJ
    exact st_w hd (run_field' (n := 0) ho (show a.eval (.tmp 121) = .pointer (some ⟨r, 0, none⟩) from ex_v (hJ 16 (by decide) (by decide))) Tryz.underlying33 rfl (by kernel_rfl) w) ⟨w, rfl⟩
  have st6 : StepV Tryz.prog Q cutIL cutIW F a0 15 6 := by
    subst hF
    intro o hd ho a w hout hJ
    exact st_w hd (run_sliceL' ho (show a.eval (.tmp 109) = .slice (some ⟨g, 0, none⟩) N cap from ex_v (hJ 4 (by decide) (by decide))) (show a.eval (.tmp 110) = .int .i64 (k : Int) from ex_v (hJ 5 (by decide) (by decide))) Tryz.underlying30 (hXto w)) ⟨w, rfl⟩
  have st13 : StepV Tryz.prog Q cutIL cutIW F a0 15 13 := by
    subst hF
    intro o hd ho a w hout hJ
    have h5 := run_addI' ho (show a.eval (.tmp 117) = .int .i64 (k : Int) from ex_v (hJ 12 (by decide) (by decide))) (show a.eval (.const (.int .i64 1)) = .int .i64 1 from rfl) Tryz.underlying3 w
    rw [d1] at h5
    exact st_w hd h5 ⟨w, rfl⟩
  have st14 : StepV Tryz.prog Q cutIL cutIW F a0 15 14 := by
    subst hF
    intro o hd ho a w hout hJ
    exact st_w hd (run_sliceR' ho (show a.eval (.tmp 116) = .slice (some ⟨g, 0, none⟩) N cap from ex_v (hJ 11 (by decide) (by decide))) (show a.eval (.tmp 118) = .int .i64 ((k : Int) + 1) from ex_v (hJ 13 (by decide) (by decide))) Tryz.underlying30 (hXe w)) ⟨w, rfl⟩
  have st4 : StepP Tryz.prog Q cutIL cutIW F R0 a0 4 := by
    subst hF hR0d
    intro o hd ho a w5 hR hout hJ
    exact st_v hd (run_loadC' ho (show a.eval (.tmp 108) = .pointer (some ⟨r, 2, none⟩) from hJ 3 (by decide)) Tryz.underlying30 rfl w5 (hR.2.1.cellAt rfl)) rfl
  have st11 : StepP Tryz.prog Q cutIL cutIW F R0 a0 11 := by
    subst hF hR0d
    intro o hd ho a w5 hR hout hJ
    exact st_v hd (run_loadC' ho (show a.eval (.tmp 115) = .pointer (some ⟨r, 2, none⟩) from hJ 10 (by decide)) Tryz.underlying30 rfl w5 (hR.2.1.cellAt rfl)) rfl
  have st7 : StepP Tryz.prog Q cutIL cutIW F R0 a0 7 := by
    subst hF hR0d
    intro o hd ho a w5 hR hout hJ
    have hx : a.eval (.tmp 111) = .slice (some ⟨g, 0, none⟩) k cap := hJ 6 (by decide)
    refine wp_append_src w5 (.const (.slice none 0 0)) (.tmp 111) 30 ho w.heap.size 3 i0 (.int .i64 0) 8 Tryz.underlying30 hi0 hz0 hz1 hz2 rfl (.slice none 0 0) 0 [] rfl (World.ownsRow_nil _ _ _ _) (.slice (some ⟨g, 0, none⟩) k cap) k (cs.take k) hx ⟨by rw [List.length_take]; omega, Or.inr ⟨⟨g, 0, none⟩, cap, rfl, fun j u hj => ?_⟩⟩ (fun u hu => h1cs u (List.mem_of_mem_take hu)) (by unfold maxLen; omega) (by omega) hR.1.size ?_
    · refine hR.2.2.cells (g := g) rfl j u ?_
      rw [List.getElem?_take] at hj
      split at hj
      · exact hj
      · cases hj
    · intro v' w6 h1 h2 h3
      refine ⟨v', rfl, ⟨h2.os, h2.tape, h2.output, h2.size, fun q hq => h2.block q hq (by simp [Value.ownBlock])⟩, ?_⟩
      rw [hd]
      rw [Nat.zero_add, List.nil_append] at h1
      exact h1
  refine wp_region_K2 (p := 15) (q := 18) cutIL cutIW F R0 R1 R2 [4, 7, 11] (by kernel_rfl) hok hk hL (n := 19) rfl hsz (by decide) (by decide) (by decide) (by decide) ?_ (by decide) ?_ ?_ ?_ ?_ ?_ ?_ ?_ ?_ ?_
  · intro i hi L hc hp
    have c7 := hc 15 7 (by decide) hp (by decide)
    have c14 := hc 15 14 (by decide) hp (by decide)
    have c6 := hc 7 6 (by decide) c7 (by decide)
    have c4 := hc 6 4 (by decide) c6 (by decide)
    have c11 := hc 14 11 (by decide) c14 (by decide)
    rcases List.mem_cons.1 hi with rfl | hi
    · exact c4
    rcases List.mem_cons.1 hi with rfl | hi
    · exact c7
    rcases List.mem_cons.1 hi with rfl | hi
    · exact c11
    · cases hi
  · subst hF
    intro i hi hm
    match i, hi, hm with
    | 0, _, _ => exact fun _ _ _ h => h
    | 1, _, _ => exact fun _ _ _ h => h
    | 2, _, _ => exact fun _ _ _ h => h
    | 3, _, _ => exact fun _ _ _ h => h
    | 4, _, hm => exact absurd (by decide) hm
    | 5, _, _ => exact fun _ _ _ h => h
    | 6, _, _ => exact fun _ _ _ h => h
    | 7, _, hm => exact absurd (by decide) hm
    | 8, _, _ => exact fun _ _ _ h => h
    | 9, _, _ => exact fun _ _ _ h => h
    | 10, _, _ => exact fun _ _ _ h => h
    | 11, _, hm => exact absurd (by decide) hm
    | 12, _, _ => exact fun _ _ _ h => h
    | 13, _, _ => exact fun _ _ _ h => h
    | 14, _, _ => exact fun _ _ _ h => h
    | 15, _, _ => exact fun _ _ _ h => h
    | 16, _, _ => exact fun _ _ _ h => h
    | 17, _, _ => exact fun _ _ _ h => h
    | 18, _, _ => exact fun _ _ _ h => h
    | k + 19, h, _ => exact absurd h (by omega)
  · subst hR0d
    exact ⟨(Touch.refl _ _).drew, RowIs.drew hrow, own_touch ho ((Touch.refl (fun _ => False) w).drew) (fun _ _ x => x)⟩
  · subst hR0d
    rintro u u2 ⟨h1, h2, h3⟩ hb
    exact ⟨h1.trans (Touch.of_below hb), RowIs.below h2 hb (RowIs.lt h2), own_touch h3 (Touch.of_below (S := fun _ => False) hb) (fun _ _ x => x)⟩
  · subst hF
    exact ⟨fun _ _ _ _ h => h, fun _ _ _ _ h => h, fun _ _ _ _ h => h, fun _ _ _ _ h => h, fun _ _ _ _ h => h, fun _ _ _ _ h => h, fun _ _ _ _ h => h, fun _ _ _ hb h => own_touch h (Touch.of_below (S := fun _ => False) hb) (fun _ _ x => x), fun _ _ _ _ h => h, fun _ _ _ _ h => h, fun _ _ _ _ h => h, fun _ _ _ _ h => h, fun _ _ _ _ h => h, fun _ _ _ _ h => h, fun _ _ _ _ h => h, fun _ _ _ _ h => h, fun _ _ _ _ h => h, fun _ _ _ _ h => h, fun _ _ _ _ h => h, True.intro⟩
  · intro i hi h1 h2 hm
    match i, hi, h1, h2, hm with
    | 0, _, _, _, _ => exact st0
    | 1, _, _, _, _ => exact st1
    | 2, _, _, _, _ => exact st2
    | 3, _, _, _, _ => exact st3
    | 4, _, _, _, hm => exact absurd (by decide) hm
    | 5, _, _, _, _ => exact st5
    | 6, _, _, _, _ => exact st6
    | 7, _, _, _, hm => exact absurd (by decide) hm
    | 8, _, _, _, _ => exact st8
    | 9, _, _, _, _ => exact st9
    | 10, _, _, _, _ => exact st10
    | 11, _, _, _, hm => exact absurd (by decide) hm
    | 12, _, _, _, _ => exact st12
    | 13, _, _, _, _ => exact st13
    | 14, _, _, _, _ => exact st14
    | 15, _, h, _, _ => exact absurd rfl h
    | 16, _, _, _, _ => exact st16
    | 17, _, _, _, _ => exact st17
    | 18, _, _, h, _ => exact absurd rfl h
    | k + 19, h, _, _, _ => exact absurd h (by omega)
  · intro i hi
    rcases List.mem_cons.1 hi with rfl | hi
    · exact st4
    rcases List.mem_cons.1 hi with rfl | hi
    · exact st7
    rcases List.mem_cons.1 hi with rfl | hi
    · exact st11
    · cases hi
  · subst hF hR0d hR1d
    rintro o hd ho' a w5 ⟨ht, hr, hw⟩ hout hJ
    have hv : w5.ownsRow w.heap.size 3 1 (a.eval (.tmp 112)) k (cs.take k) := hJ 7 (by decide)
    have hx : a.eval (.tmp 119) = X := hJ 14 (by decide)
    refine wp_append_src w5 (.tmp 112) (.tmp 119) 30 ho' w.heap.size 3 i0 (.int .i64 0) 8 Tryz.underlying30 hi0 hz0 hz1 hz2 rfl (a.eval (.tmp 112)) k (cs.take k) rfl hv X (N - (k + 1)) (cs.drop (k + 1)) hx ⟨by rw [List.length_drop]; omega, Or.inr ⟨A, cap - (k + 1), hX, fun j u hj => ?_⟩⟩ (fun u hu => h1cs u (List.mem_of_mem_drop hu)) (by unfold maxLen; omega) (by omega) ht.size ?_
    · rw [List.getElem?_drop] at hj
      have hj2 := (List.getElem?_eq_some_iff.1 hj).1
      have hA := hAx (by omega)
      have := hw.cells (g := g) rfl (k + 1 + j) u hj
      subst hA
      rw [show (⟨g, k + 1, none⟩ : Addr).add j = ⟨g, k + 1 + j, none⟩ from addr_addC g (k + 1) j]
      rw [show (⟨g, 0, none⟩ : Addr).add (k + 1 + j) = ⟨g, k + 1 + j, none⟩ from (addr_addC g 0 (k + 1 + j)).trans (by rw [Nat.zero_add])] at this
      exact this
    · intro v' w6 h1 h2 h3
      refine ⟨v', rfl, ht.grown h2 (fun n hn => Or.inr (World.ownsRow.lt hv n hn).1), ?_, ?_⟩
      · show w6.heap[r]? = _
        rw [h2.block r hr.lt (fun e => by have := (World.ownsRow.lt hv r e.symm).1; omega)]
        exact hr
      · rw [hd]
        rw [show k + (N - (k + 1)) = N - 1 by omega] at h1
        exact h1
  · subst hF hR1d hR2d
    rintro o hd ho' a w5 ⟨ht, hr, hw⟩ hout hJ
    have hp : a.eval (.tmp 122) = .pointer (some ⟨r, 2, none⟩) := ex_v (hJ 17 (by decide) (by decide))
    obtain ⟨a1, c1, hv⟩ := own_form hw
    have hv' : a.eval (.tmp 120) = .slice a1 (N - 1) c1 := hv
    refine wp_storeC' ho' hd hp hv' (by kernel_rfl) (hr.cellAt (j := 2) rfl) (hr.frozen 2) ?_
    refine ⟨undef, by rw [hd]; rfl, ht.set (Or.inl rfl) _, ?_, ?_⟩
    · have h5 := RowIs.set hr 2 (.slice a1 (N - 1) c1)
      rw [hv]
      exact h5
    · exact own_touch hw ((Touch.refl (fun n => n = r) w5).set (p := ⟨r, 2, none⟩) (Or.inl rfl) _) (fun q hq e => by have := (World.ownsRow.lt hw q hq).1; omega)
  · subst hF hR2d
    rintro a w5 hs hdf hout ⟨ht, hr, hw⟩ hJ
    have hEqA := act_putsC a a0 [105, 106, 107, 108, 109, 110, 111, 112, 113, 114, 115, 116, 117, 118, 119, 120, 121, 122] (by rw [hs, hsz]) hdf (by rw [hs]; decide) (fun t ht => hout t (fun h => ht (by simpa [cutIL] using h)))
    simp only [List.foldl] at hEqA
    rw [hEqA]
    exact hend _ _ _ _ _ _ _ _ _ _ _ _ _ _ _ _ _ _ w5 hw hr ht

end Go.Proofs.YtanghehmfagmfaaGreatDoor

/-
  One region that draws its order: the reference's In lets one element of a list go (the texts).
-/
namespace Go.Proofs.YtanghehmfagmfaaGreatDoor
open Go.RowKit
set_option linter.unusedVariables false
set_option maxRecDepth 100000
set_option linter.unusedSimpArgs false

def cutTL : List (Option Tmp × Op) :=
  [(some 123, .move (.tmp 0)),
   (some 124, .move (.tmp 0)),
   (some 125, .nilCheck (.tmp 124)),
   (some 126, .fieldAddr 33 (.tmp 125) 3),
   (some 127, .load 31 (.tmp 126)),
   (some 128, .move (.tmp 11)),
   (some 129, .slice 31 (.tmp 127) none (some (.tmp 128)) none),
   (some 130, .call { callee := .builtin .append, args := #[.const (.slice none 0 0), .tmp 129], argTypes := #[31, 31] }),
   (some 131, .move (.tmp 0)),
   (some 132, .nilCheck (.tmp 131)),
   (some 133, .fieldAddr 33 (.tmp 132) 3),
   (some 134, .load 31 (.tmp 133)),
   (some 135, .move (.tmp 11)),
   (some 136, .binOp .add 3 (.tmp 135) (.const (.int .i64 1)) 3),
   (some 137, .slice 31 (.tmp 134) (some (.tmp 136)) none none),
   (some 138, .call { callee := .builtin .append, args := #[.tmp 130, .tmp 137], argTypes := #[31, 31] }),
   (some 139, .nilCheck (.tmp 123)),
   (some 140, .fieldAddr 33 (.tmp 139) 3),
   (none, .store 31 (.tmp 140) (.tmp 138))]
def cutTW : List (List Nat) :=
  [[], [], [1], [2], [3], [], [4, 5], [6], [], [8], [9], [10], [], [12], [11, 13], [7, 14], [0, 1, 2, 3, 4, 5, 6, 7, 8, 9, 10, 11, 12, 13, 14, 15], [0, 1, 2, 3, 4, 5, 6, 7, 8, 9, 10, 11, 12, 13, 14, 15, 16], [0, 1, 2, 3, 4, 5, 6, 7, 8, 9, 10, 11, 12, 13, 14, 15, 17]]

set_option maxHeartbeats 1000000 in
theorem cutT_region {id : Nat} {ops : Array Oper} {Q : Exit → Act → World → Prop} {a0 : Act} {w : World} (r g N cap k : Nat) (x0 x1 y : Value) (cs : List Value) (h1cs : ∀ u ∈ cs, u.oneCell' = true)
    (hkN : k < N) (hN : N ≤ 1000) (hcs : cs.length = N)
    (hok : regOk ops 149 = true) (hk : kinds ops = cutTL) (hL : waitsL ops = cutTW) (hsz : a0.tmps.size = 149)
    (h0 : a0.eval (.tmp 0) = .pointer (some ⟨r, 0, none⟩)) (h11 : a0.eval (.tmp 11) = .int .i64 (k : Int))
    (hrow : RowIs w r 33 [x0, x1, y, .slice (some ⟨g, 0, none⟩) N cap]) (ho : w.ownsRow 0 9 1 (.slice (some ⟨g, 0, none⟩) N cap) N cs) (hgr : g ≠ r)
    (hend : ∀ (v123 v124 v125 v126 v127 v128 v129 v130 v131 v132 v133 v134 v135 v136 v137 v138 v139 v140 : Value) w5, w5.ownsRow w.heap.size 9 1 v138 (N - 1) (cs.take k ++ cs.drop (k + 1)) → RowIs w5 r 33 [x0, x1, y, v138] → Touch (fun n => n = r) w w5 →
      Q .normal ((((((((((((((((((a0.put (some 123) v123).put (some 124) v124).put (some 125) v125).put (some 126) v126).put (some 127) v127).put (some 128) v128).put (some 129) v129).put (some 130) v130).put (some 131) v131).put (some 132) v132).put (some 133) v133).put (some 134) v134).put (some 135) v135).put (some 136) v136).put (some 137) v137).put (some 138) v138).put (some 139) v139).put (some 140) v140) w5) :
    (Code.region id ops true).wp Tryz.prog Q a0 w := by
  obtain ⟨i0, hi0, hz0, hz1, hz2⟩ := info_parts infoT
  have hrlt := hrow.lt
  have hNcap : N ≤ cap := by
    rcases ho.2 with ⟨h, _⟩ | ⟨g', cap', cur, h, _, _, h2, _⟩
    · cases h
    · simp only [Value.slice.injEq, true_and] at h
      rw [h.2]; exact h2
  obtain ⟨A, X, hX, hXe, hAx⟩ : ∃ (A : Addr) (X : Value), X = .slice (some A) (N - (k + 1)) (cap - (k + 1)) ∧ (∀ w : World, (Instr.slice 31 (.slice (some ⟨g, 0, none⟩) N cap) (some (.int .i64 ((k : Int) + 1))) none none).run Tryz.prog w = .ok X w) ∧ (k + 1 < N → A = ⟨g, k + 1, none⟩) := by
    have hrun := fun w : World => run_slice_l (P := Tryz.prog) w 31 (some ⟨g, 0, none⟩) N cap Tryz.underlying31 .i64 ((k : Int) + 1) (by omega) (by omega)
    have hs : ∀ w, (sizeOf (Tryz.prog.elem 31)).run Tryz.prog w = .ok 1 w := fun w => Tryz.sizeOf9 w
    by_cases hc : cap = k + 1
    · refine ⟨⟨g, 0, none⟩, _, rfl, fun w => ?_, fun h => absurd h (by omega)⟩
      rw [hrun w, hs]
      simp [Result.andThen, sliced, hc]
    · refine ⟨⟨g, k + 1, none⟩, _, rfl, fun w => ?_, fun _ => rfl⟩
      rw [hrun w, hs]
      have e : ((k : Int) + 1).toNat = k + 1 := by omega
      simp [Result.andThen, sliced, hc, e, Addr.add]
      try omega
  have hXto : ∀ w : World, (Instr.slice 31 (.slice (some ⟨g, 0, none⟩) N cap) none (some (.int .i64 (k : Int))) none).run Tryz.prog w = .ok (.slice (some ⟨g, 0, none⟩) k cap) w := fun w => by
    have hrun := run_slice_h (P := Tryz.prog) w 31 (some ⟨g, 0, none⟩) N cap Tryz.underlying31 .i64 (k : Int) (by omega) (by omega)
    have hs : (sizeOf (Tryz.prog.elem 31)).run Tryz.prog w = .ok 1 w := Tryz.sizeOf9 w
    rw [hrun, hs]
    simp [Result.andThen, sliced]
    try (intro _; exact addr_addC g 0 0)
  have d1 : IntKind.i64.wrap ((k : Int) + 1) = (k : Int) + 1 := by rw [IntKind.wrap_i64]; omega
  obtain ⟨F, hF⟩ : ∃ F : List (Value → World → Prop), F = [fun v _ => v = .pointer (some ⟨r, 0, none⟩),
    fun v _ => v = .pointer (some ⟨r, 0, none⟩),
    fun v _ => v = .pointer (some ⟨r, 0, none⟩),
    fun v _ => v = .pointer (some ⟨r, 3, none⟩),
    fun v _ => v = .slice (some ⟨g, 0, none⟩) N cap,
    fun v _ => v = .int .i64 (k : Int),
    fun v _ => v = .slice (some ⟨g, 0, none⟩) k cap,
    fun v w5 => w5.ownsRow w.heap.size 9 1 v k (cs.take k),
    fun v _ => v = .pointer (some ⟨r, 0, none⟩),
    fun v _ => v = .pointer (some ⟨r, 0, none⟩),
    fun v _ => v = .pointer (some ⟨r, 3, none⟩),
    fun v _ => v = .slice (some ⟨g, 0, none⟩) N cap,
    fun v _ => v = .int .i64 (k : Int),
    fun v _ => v = .int .i64 ((k : Int) + 1),
    fun v _ => v = X,
    fun _ _ => True,
    fun v _ => v = .pointer (some ⟨r, 0, none⟩),
    fun v _ => v = .pointer (some ⟨r, 3, none⟩),
    fun _ _ => True] := ⟨_, rfl⟩
  obtain ⟨R0, hR0d⟩ : ∃ R0 : World → Prop, R0 = fun w5 => Touch (fun n => n = r) w w5 ∧ RowIs w5 r 33 [x0, x1, y, .slice (some ⟨g, 0, none⟩) N cap] ∧ w5.ownsRow 0 9 1 (.slice (some ⟨g, 0, none⟩) N cap) N cs := ⟨_, rfl⟩
  obtain ⟨R1, hR1d⟩ : ∃ R1 : Value → World → Prop, R1 = fun v w5 => Touch (fun n => n = r) w w5 ∧ RowIs w5 r 33 [x0, x1, y, .slice (some ⟨g, 0, none⟩) N cap] ∧ w5.ownsRow w.heap.size 9 1 v (N - 1) (cs.take k ++ cs.drop (k + 1)) := ⟨_, rfl⟩
  obtain ⟨R2, hR2d⟩ : ∃ R2 : Value → World → Prop, R2 = fun v w5 => Touch (fun n => n = r) w w5 ∧ RowIs w5 r 33 [x0, x1, y, v] ∧ w5.ownsRow w.heap.size 9 1 v (N - 1) (cs.take k ++ cs.drop (k + 1)) := ⟨_, rfl⟩
  have st0 : StepV Tryz.prog Q cutTL cutTW F a0 15 0 := by
    subst hF
    intro o hd ho a w hout hJ
    exact st_w hd (run_move' ho ((hout 0 (by decide)).trans h0) w) ⟨w, rfl⟩
  have st1 : StepV Tryz.prog Q cutTL cutTW F a0 15 1 := by
    subst hF
    intro o hd ho a w hout hJ
    exact st_w hd (run_move' ho ((hout 0 (by decide)).trans h0) w) ⟨w, rfl⟩
  have st8 : StepV Tryz.prog Q cutTL cutTW F a0 15 8 := by
    subst hF
    intro o hd ho a w hout hJ
    exact st_w hd (run_move' ho ((hout 0 (by decide)).trans h0) w) ⟨w, rfl⟩
  have st5 : StepV Tryz.prog Q cutTL cutTW F a0 15 5 := by
    subst hF
    intro o hd ho a w hout hJ
    exact st_w hd (run_move' ho ((hout 11 (by decide)).trans h11) w) ⟨w, rfl⟩
  have st12 : StepV Tryz.prog Q cutTL cutTW F a0 15 12 := by
    subst hF
    intro o hd ho a w hout hJ
    exact st_w hd (run_move' ho ((hout 11 (by decide)).trans h11) w) ⟨w, rfl⟩
  have st2 : StepV Tryz.prog Q cutTL cutTW F a0 15 2 := by
    subst hF
    intro o hd ho a w hout hJ
    exact st_w hd (run_nil' ho (show a.eval (.tmp 124) = .pointer (some ⟨r, 0, none⟩) from ex_v (hJ 1 (by decide) (by decide))) w) ⟨w, rfl⟩
  have st9 : StepV Tryz.prog Q cutTL cutTW F a0 15 9 := by
    subst hF
    intro o hd ho a w hout hJ
    exact st_w hd (run_nil' ho (show a.eval (.tmp 131) = .pointer (some ⟨r, 0, none⟩) from ex_v (hJ 8 (by decide) (by decide))) w) ⟨w, rfl⟩
  have st16 : StepV Tryz.prog Q cutTL cutTW F a0 15 16 := by
    subst hF
    intro o hd ho a w hout hJ
    exact st_w hd (run_nil' ho (show a.eval (.tmp 123) = .pointer (some ⟨r, 0, none⟩) from ex_v (hJ 0 (by decide) (by decide))) w) ⟨w, rfl⟩
  have st3 : StepV Tryz.prog Q cutTL cutTW F a0 15 3 := by
    subst hF
    intro o hd ho a w hout hJ
    exact st_w hd (run_field' (n := 0) ho (show a.eval (.tmp 125) = .pointer (some ⟨r, 0, none⟩) from ex_v (hJ 2 (by decide) (by decide))) Tryz.underlying33 rfl (by kernel_rfl) w) ⟨w, rfl⟩
  have st10 : StepV Tryz.prog Q cutTL cutTW F a0 15 10 := by
    subst hF
    intro o hd ho a w hout hJ
    exact st_w hd (run_field' (n := 0) ho (show a.eval (.tmp 132) = .pointer (some ⟨r, 0, none⟩) from ex_v (hJ 9 (by decide) (by decide))) Tryz.underlying33 rfl (by kernel_rfl) w) ⟨w, rfl⟩
  have st17 : StepV Tryz.prog Q cutTL cutTW F a0 15 17 := by
    subst hF
    intro o hd ho a w hout hJ
    exact st_w hd (run_field' (n := 0) ho (show a.eval (.tmp 139) = .pointer (some ⟨r, 0, none⟩) from ex_v (hJ 16 (by decide) (by decide))) Tryz.underlying33 rfl (by kernel_rfl) w) ⟨w, rfl⟩
  have st6 : StepV Tryz.prog Q cutTL cutTW F a0 15 6 := by
    subst hF
    intro o hd ho a w hout hJ
    exact st_w hd (run_sliceL' ho (show a.eval (.tmp 127) = .slice (some ⟨g, 0, none⟩) N cap from ex_v (hJ 4 (by decide) (by decide))) (show a.eval (.tmp 128) = .int .i64 (k : Int) from ex_v (hJ 5 (by decide) (by decide))) Tryz.underlying31 (hXto w)) ⟨w, rfl⟩
  have st13 : StepV Tryz.prog Q cutTL cutTW F a0 15 13 := by
    subst hF
    intro o hd ho a w hout hJ
    have h5 := run_addI' ho (show a.eval (.tmp 135) = .int .i64 (k : Int) from ex_v (hJ 12 (by decide) (by decide))) (show a.eval (.const (.int .i64 1)) = .int .i64 1 from rfl) Tryz.underlying3 w
    rw [d1] at h5
    exact st_w hd h5 ⟨w, rfl⟩
  have st14 : StepV Tryz.prog Q cutTL cutTW F a0 15 14 := by
    subst hF
    intro o hd ho a w hout hJ
    exact st_w hd (run_sliceR' ho (show a.eval (.tmp 134) = .slice (some ⟨g, 0, none⟩) N cap from ex_v (hJ 11 (by decide) (by decide))) (show a.eval (.tmp 136) = .int .i64 ((k : Int) + 1) from ex_v (hJ 13 (by decide) (by decide))) Tryz.underlying31 (hXe w)) ⟨w, rfl⟩
  have st4 : StepP Tryz.prog Q cutTL cutTW F R0 a0 4 := by
    subst hF hR0d
    intro o hd ho a w5 hR hout hJ
    exact st_v hd (run_loadC' ho (show a.eval (.tmp 126) = .pointer (some ⟨r, 3, none⟩) from hJ 3 (by decide)) Tryz.underlying31 rfl w5 (hR.2.1.cellAt rfl)) rfl
  have st11 : StepP Tryz.prog Q cutTL cutTW F R0 a0 11 := by
    subst hF hR0d
    intro o hd ho a w5 hR hout hJ
    exact st_v hd (run_loadC' ho (show a.eval (.tmp 133) = .pointer (some ⟨r, 3, none⟩) from hJ 10 (by decide)) Tryz.underlying31 rfl w5 (hR.2.1.cellAt rfl)) rfl
  have st7 : StepP Tryz.prog Q cutTL cutTW F R0 a0 7 := by
    subst hF hR0d
    intro o hd ho a w5 hR hout hJ
    have hx : a.eval (.tmp 129) = .slice (some ⟨g, 0, none⟩) k cap := hJ 6 (by decide)
    refine wp_append_src w5 (.const (.slice none 0 0)) (.tmp 129) 31 ho w.heap.size 9 i0 (.string ⟨#[]⟩) 16 Tryz.underlying31 hi0 hz0 hz1 hz2 rfl (.slice none 0 0) 0 [] rfl (World.ownsRow_nil _ _ _ _) (.slice (some ⟨g, 0, none⟩) k cap) k (cs.take k) hx ⟨by rw [List.length_take]; omega, Or.inr ⟨⟨g, 0, none⟩, cap, rfl, fun j u hj => ?_⟩⟩ (fun u hu => h1cs u (List.mem_of_mem_take hu)) (by unfold maxLen; omega) (by omega) hR.1.size ?_
    · refine hR.2.2.cells (g := g) rfl j u ?_
      rw [List.getElem?_take] at hj
      split at hj
      · exact hj
      · cases hj
    · intro v' w6 h1 h2 h3
      refine ⟨v', rfl, ⟨h2.os, h2.tape, h2.output, h2.size, fun q hq => h2.block q hq (by simp [Value.ownBlock])⟩, ?_⟩
      rw [hd]
      rw [Nat.zero_add, List.nil_append] at h1
      exact h1
  refine wp_region_K2 (p := 15) (q := 18) cutTL cutTW F R0 R1 R2 [4, 7, 11] (by kernel_rfl) hok hk hL (n := 19) rfl hsz (by decide) (by decide) (by decide) (by decide) ?_ (by decide) ?_ ?_ ?_ ?_ ?_ ?_ ?_ ?_ ?_
  · intro i hi L hc hp
    have c7 := hc 15 7 (by decide) hp (by decide)
    have c14 := hc 15 14 (by decide) hp (by decide)
    have c6 := hc 7 6 (by decide) c7 (by decide)
    have c4 := hc 6 4 (by decide) c6 (by decide)
    have c11 := hc 14 11 (by decide) c14 (by decide)
    rcases List.mem_cons.1 hi with rfl | hi
    · exact c4
    rcases List.mem_cons.1 hi with rfl | hi
    · exact c7
    rcases List.mem_cons.1 hi with rfl | hi
    · exact c11
    · cases hi
  · subst hF
    intro i hi hm
    match i, hi, hm with
    | 0, _, _ => exact fun _ _ _ h => h
    | 1, _, _ => exact fun _ _ _ h => h
    | 2, _, _ => exact fun _ _ _ h => h
    | 3, _, _ => exact fun _ _ _ h => h
    | 4, _, hm => exact absurd (by decide) hm
    | 5, _, _ => exact fun _ _ _ h => h
    | 6, _, _ => exact fun _ _ _ h => h
    | 7, _, hm => exact absurd (by decide) hm
    | 8, _, _ => exact fun _ _ _ h => h
    | 9, _, _ => exact fun _ _ _ h => h
    | 10, _, _ => exact fun _ _ _ h => h
    | 11, _, hm => exact absurd (by decide) hm
    | 12, _, _ => exact fun _ _ _ h => h
    | 13, _, _ => exact fun _ _ _ h => h
    | 14, _, _ => exact fun _ _ _ h => h
    | 15, _, _ => exact fun _ _ _ h => h
    | 16, _, _ => exact fun _ _ _ h => h
    | 17, _, _ => exact fun _ _ _ h => h
    | 18, _, _ => exact fun _ _ _ h => h
    | k + 19, h, _ => exact absurd h (by omega)
  · subst hR0d
    exact ⟨(Touch.refl _ _).drew, RowIs.drew hrow, own_touch ho ((Touch.refl (fun _ => False) w).drew) (fun _ _ x => x)⟩
  · subst hR0d
    rintro u u2 ⟨h1, h2, h3⟩ hb
    exact ⟨h1.trans (Touch.of_below hb), RowIs.below h2 hb (RowIs.lt h2), own_touch h3 (Touch.of_below (S := fun _ => False) hb) (fun _ _ x => x)⟩
  · subst hF
    exact ⟨fun _ _ _ _ h => h, fun _ _ _ _ h => h, fun _ _ _ _ h => h, fun _ _ _ _ h => h, fun _ _ _ _ h => h, fun _ _ _ _ h => h, fun _ _ _ _ h => h, fun _ _ _ hb h => own_touch h (Touch.of_below (S := fun _ => False) hb) (fun _ _ x => x), fun _ _ _ _ h => h, fun _ _ _ _ h => h, fun _ _ _ _ h => h, fun _ _ _ _ h => h, fun _ _ _ _ h => h, fun _ _ _ _ h => h, fun _ _ _ _ h => h, fun _ _ _ _ h => h, fun _ _ _ _ h => h, fun _ _ _ _ h => h, fun _ _ _ _ h => h, True.intro⟩
  · intro i hi h1 h2 hm
    match i, hi, h1, h2, hm with
    | 0, _, _, _, _ => exact st0
    | 1, _, _, _, _ => exact st1
    | 2, _, _, _, _ => exact st2
    | 3, _, _, _, _ => exact st3
    | 4, _, _, _, hm => exact absurd (by decide) hm
    | 5, _, _, _, _ => exact st5
    | 6, _, _, _, _ => exact st6
    | 7, _, _, _, hm => exact absurd (by decide) hm
    | 8, _, _, _, _ => exact st8
    | 9, _, _, _, _ => exact st9
    | 10, _, _, _, _ => exact st10
    | 11, _, _, _, hm => exact absurd (by decide) hm
    | 12, _, _, _, _ => exact st12
    | 13, _, _, _, _ => exact st13
    | 14, _, _, _, _ => exact st14
    | 15, _, h, _, _ => exact absurd rfl h
    | 16, _, _, _, _ => exact st16
    | 17, _, _, _, _ => exact st17
    | 18, _, _, h, _ => exact absurd rfl h
    | k + 19, h, _, _, _ => exact absurd h (by omega)
  · intro i hi
    rcases List.mem_cons.1 hi with rfl | hi
    · exact st4
    rcases List.mem_cons.1 hi with rfl | hi
    · exact st7
    rcases List.mem_cons.1 hi with rfl | hi
    · exact st11
    · cases hi
  · subst hF hR0d hR1d
    rintro o hd ho' a w5 ⟨ht, hr, hw⟩ hout hJ
    have hv : w5.ownsRow w.heap.size 9 1 (a.eval (.tmp 130)) k (cs.take k) := hJ 7 (by decide)
    have hx : a.eval (.tmp 137) = X := hJ 14 (by decide)
    refine wp_append_src w5 (.tmp 130) (.tmp 137) 31 ho' w.heap.size 9 i0 (.string ⟨#[]⟩) 16 Tryz.underlying31 hi0 hz0 hz1 hz2 rfl (a.eval (.tmp 130)) k (cs.take k) rfl hv X (N - (k + 1)) (cs.drop (k + 1)) hx ⟨by rw [List.length_drop]; omega, Or.inr ⟨A, cap - (k + 1), hX, fun j u hj => ?_⟩⟩ (fun u hu => h1cs u (List.mem_of_mem_drop hu)) (by unfold maxLen; omega) (by omega) ht.size ?_
    · rw [List.getElem?_drop] at hj
      have hj2 := (List.getElem?_eq_some_iff.1 hj).1
      have hA := hAx (by omega)
      have := hw.cells (g := g) rfl (k + 1 + j) u hj
      subst hA
      rw [show (⟨g, k + 1, none⟩ : Addr).add j = ⟨g, k + 1 + j, none⟩ from addr_addC g (k + 1) j]
      rw [show (⟨g, 0, none⟩ : Addr).add (k + 1 + j) = ⟨g, k + 1 + j, none⟩ from (addr_addC g 0 (k + 1 + j)).trans (by rw [Nat.zero_add])] at this
      exact this
    · intro v' w6 h1 h2 h3
      refine ⟨v', rfl, ht.grown h2 (fun n hn => Or.inr (World.ownsRow.lt hv n hn).1), ?_, ?_⟩
      · show w6.heap[r]? = _
        rw [h2.block r hr.lt (fun e => by have := (World.ownsRow.lt hv r e.symm).1; omega)]
        exact hr
      · rw [hd]
        rw [show k + (N - (k + 1)) = N - 1 by omega] at h1
        exact h1
  · subst hF hR1d hR2d
    rintro o hd ho' a w5 ⟨ht, hr, hw⟩ hout hJ
    have hp : a.eval (.tmp 140) = .pointer (some ⟨r, 3, none⟩) := ex_v (hJ 17 (by decide) (by decide))
    obtain ⟨a1, c1, hv⟩ := own_form hw
    have hv' : a.eval (.tmp 138) = .slice a1 (N - 1) c1 := hv
    refine wp_storeC' ho' hd hp hv' (by kernel_rfl) (hr.cellAt (j := 3) rfl) (hr.frozen 3) ?_
    refine ⟨undef, by rw [hd]; rfl, ht.set (Or.inl rfl) _, ?_, ?_⟩
    · have h5 := RowIs.set hr 3 (.slice a1 (N - 1) c1)
      rw [hv]
      exact h5
    · exact own_touch hw ((Touch.refl (fun n => n = r) w5).set (p := ⟨r, 3, none⟩) (Or.inl rfl) _) (fun q hq e => by have := (World.ownsRow.lt hw q hq).1; omega)
  · subst hF hR2d
    rintro a w5 hs hdf hout ⟨ht, hr, hw⟩ hJ
    have hEqA := act_putsC a a0 [123, 124, 125, 126, 127, 128, 129, 130, 131, 132, 133, 134, 135, 136, 137, 138, 139, 140] (by rw [hs, hsz]) hdf (by rw [hs]; decide) (fun t ht => hout t (fun h => ht (by simpa [cutTL] using h)))
    simp only [List.foldl] at hEqA
    rw [hEqA]
    exact hend _ _ _ _ _ _ _ _ _ _ _ _ _ _ _ _ _ _ w5 hw hr ht

end Go.Proofs.YtanghehmfagmfaaGreatDoor

/-
  The reference's In opens a record: where it is taken.
-/
namespace Go.Proofs.YtanghehmfagmfaaGreatDoor
open Go.RowKit
set_option linter.unusedVariables false
set_option maxRecDepth 100000
set_option linter.unusedSimpArgs false

theorem hideC {p : Prop} (h : p) : Hid p := h
def lenC : Option Value → Nat
  | some (.slice _ n _) => n
  | _ => 0
theorem seqs_erase (W : Wait) (k : Nat) : cellsI (seqsOf (W.eraseIdx k)) = (cellsI (seqsOf W)).take k ++ (cellsI (seqsOf W)).drop (k + 1) := by
  unfold seqsOf cellsI
  rw [List.map_map, List.map_map, List.eraseIdx_eq_take_drop_succ, List.map_append, List.map_take, List.map_drop]
theorem txts_erase (W : Wait) (k : Nat) : cellsT (txtsOf (W.eraseIdx k)) = (cellsT (txtsOf W)).take k ++ (cellsT (txtsOf W)).drop (k + 1) := by
  unfold txtsOf cellsT
  rw [List.map_map, List.map_map, List.eraseIdx_eq_take_drop_succ, List.map_append, List.map_take, List.map_drop]
theorem cellsT_one13 (l : List ByteArray) : ∀ u ∈ cellsT l, u.oneCell' = true := by
  intro u hu
  obtain ⟨x, _, rfl⟩ := List.mem_map.1 hu
  rfl
theorem cellsT_len13 (l : List ByteArray) : (cellsT l).length = l.length := by simp [cellsT]
theorem erase_len13 (W : Wait) (k : Nat) (h : k < W.length) : (W.eraseIdx k).length = W.length - 1 := by rw [List.length_eraseIdx, if_pos h]
theorem tell_yes {f n : Nat} {W : Wait} (hh : hasW W n = true) : tellW (f + 1) n W = ((W.getD (atW W n) (0, ⟨#[]⟩)).2 :: (tellW f (n + 1) (W.eraseIdx (atW W n))).1, (tellW f (n + 1) (W.eraseIdx (atW W n))).2) := by
  show (if hasW W n then _ else _) = _
  rw [if_pos hh]
theorem tell_no {f n : Nat} {W : Wait} (hh : hasW W n = false) : tellW f n W = ([], n, W) := by
  cases f with
  | zero => rfl
  | succ f =>
    show (if hasW W n then _ else _) = _
    rw [hh]; rfl
theorem has_pos {W : Wait} {n : Nat} (hh : hasW W n = true) : 0 < W.length := Nat.lt_of_le_of_lt (Nat.zero_le _) (atW_lt hh)
theorem idxW_yes {W : Wait} {n : Nat} (hh : hasW W n = true) : idxW W n = (atW W n : Int) := by unfold idxW; rw [hh]; rfl
theorem idxW_no {W : Wait} {n : Nat} (hh : hasW W n = false) : idxW W n = -1 := by unfold idxW; rw [hh]; rfl
theorem row_grow13 {w w' : World} {r : Nat} {t : TypeId} {l : List Value} {row : Option Nat} (h : RowIs w r t l) (hg : w.grownBy w' row) (hn : row ≠ some r) : RowIs w' r t l := by
  have hl := h.lt
  show w'.heap[r]? = _
  rw [hg.block r hl (fun e => hn e.symm)]
  exact h
theorem own_grow13 {w w' : World} {base n : Nat} {e : TypeId} {v : Value} {cs : List Value} {row : Option Nat} (h : w.ownsRow base e 1 v n cs) (hg : w.grownBy w' row) (hn : ∀ k, v.ownBlock = some k → row ≠ some k) : w'.ownsRow base e 1 v n cs := own_touch h (touch_grown hg) (fun k hk e => hn k hk e)
theorem own_base13 {w : World} {base base' : Nat} {t : TypeId} {v : Value} {n : Nat} {cs : List Value} (h : w.ownsRow base t 1 v n cs) (hb : base' ≤ base) : w.ownsRow base' t 1 v n cs := by
  refine ⟨h.1, ?_⟩
  rcases h.2 with hn | ⟨g, cap, cur, hv, hg, r⟩
  · exact Or.inl hn
  · exact Or.inr ⟨g, cap, cur, hv, by omega, r⟩
theorem own_set13 {w : World} {base n r j : Nat} {e : TypeId} {v u : Value} {cs : List Value} (h : w.ownsRow base e 1 v n cs) (hr : v.ownBlock ≠ some r) : (w.setCell ⟨r, j, none⟩ u).ownsRow base e 1 v n cs := own_touch h ((Touch.refl (fun k => k = r) w).set (p := ⟨r, j, none⟩) (Or.inl rfl) u) (fun k hk e => hr (e ▸ hk))

end Go.Proofs.YtanghehmfagmfaaGreatDoor

/-
  The reference's In opens a record: it is taken, and what can be told is told.
-/
namespace Go.Proofs.YtanghehmfagmfaaGreatDoor
open Go.RowKit
set_option linter.unusedVariables false
set_option maxRecDepth 100000
set_option linter.unusedSimpArgs false

/-- Between two rounds: what was told, what waits. -/
structure MidR (w0 w : World) (r : Nat) (key : ByteArray) (n : Nat) (W : Wait) (O : List ByteArray) (vO : Value) : Prop where
  ref : ∃ vs vt, RowIs w r 33 [.string key, .int .i64 (n : Int), vs, vt] ∧ OwnI w w0.heap.size vs (seqsOf W) ∧ OwnT w w0.heap.size vt (txtsOf W) ∧ (∀ k, vO.ownBlock = some k → vs.ownBlock ≠ some k ∧ vt.ownBlock ≠ some k)
  out : OwnT w w0.heap.size vO O
  tch : Touch (fun k => k = r) w0 w
  lt : r < w0.heap.size
theorem MidR.is {w0 w : World} {r n : Nat} {key : ByteArray} {W : Wait} {O : List ByteArray} {vO : Value} (h : MidR w0 w r key n W O vO) : ∃ vs vt, RefIs w r ⟨key, n, W⟩ vs vt := by
  obtain ⟨vs, vt, hrow, hs, ht, _⟩ := h.ref
  exact ⟨vs, vt, hrow, hs.base (Nat.zero_le _), ht.base (Nat.zero_le _), fun e => by have := (World.ownsRow.lt hs r e).1; have := h.lt; omega, fun e => by have := (World.ownsRow.lt ht r e).1; have := h.lt; omega⟩

end Go.Proofs.YtanghehmfagmfaaGreatDoor

/-
  The reference's In opens a record that may be taken.
-/
namespace Go.Proofs.YtanghehmfagmfaaGreatDoor
open Go.RowKit
set_option linter.unusedVariables false
set_option maxRecDepth 100000
set_option linter.unusedSimpArgs false

theorem MidR.at_ {w0 w : World} {r n : Nat} {key : ByteArray} {W : Wait} {O : List ByteArray} {vO : Value} (h : MidR w0 w r key n W O vO) (hl : W.length ≤ 1000) : Calls Tryz.prog 49 #[.pointer (some ⟨r, 0, none⟩), .int .i64 (n : Int)] w fun e w' => e = .returned (.int .i64 (idxW W n)) ∧ w = w' := by
  obtain ⟨vs, vt, h1⟩ := h.is
  exact (ref_at r n ⟨key, n, W⟩ vs vt w h1 hl).mono fun e w' hh => ⟨hh.1, hh.2.symm⟩

set_option maxRecDepth 100000 in
set_option maxHeartbeats 4000000 in
theorem ref_open_ok (r : Nat) (s : InS) (vs vt : Value) (b : ByteArray) (w : World) (h : RefIs w r s vs vt) (hlen : s.W.length ≤ 900) (hk : s.key.size = 32) (hnx : s.next ≤ 400) (hb : b.size ≤ 1000000) (he : errR s b = 0) :
    Calls Tryz.prog 21 #[.pointer (some ⟨r, 0, none⟩), .string b] w fun e w' => ∃ v, e = .returned (.tuple #[v, .int .i64 0]) ∧ MidR w w' r s.key (stepR s b).next (stepR s b).W (outR s b) v := by
  obtain ⟨i0, hi0, hz0, hz1, hz2⟩ := info_parts infoI
  obtain ⟨j0, hj0, jz0, jz1, jz2⟩ := info_parts infoT
  obtain ⟨hf, ho, hopen⟩ := err_zero he
  obtain ⟨e1, e2⟩ := step_yes he
  obtain ⟨hq1, hq2, hq3⟩ := old_no ho
  have hform := of_decide_eq_true hf
  have hu1 : unE s.key b = 0 := by unfold unE; rw [hf, hopen]; rfl
  have hu2 : unT s.key b = textR s.key b := by unfold unT; rw [hf, hopen, if_pos rfl, if_pos rfl]
  have PU : Hid _ := fun w1 => ref_unrecord s.key b w1 hk hb
  rw [hu1, hu2] at PU
  have hB := fun w => ref_big (b.extract 0 8) w (by unfold maxLen; simp; omega)
  rw [← seqN_is b] at hB
  have PB : Hid _ := hB
  have PA : Hid _ := fun w1 (h1 : RefIs w1 r s vs vt) => ref_at r (seqN b) s vs vt w1 h1 (by omega)
  have hno : hasW s.W (seqN b) = false := by
    cases hh : hasW s.W (seqN b) with
    | false => rfl
    | true => obtain ⟨p, hp, e⟩ := (hasW_iff _ _).1 hh; exact absurd e (hq3 p hp)
  rw [idxW_no hno] at PA
  rw [e1, e2]
  have HM : Hid (moreR s b = tellW (s.W.length + 1) s.next (s.W ++ [(seqN b, textR s.key b)])) := rfl
  have d1 : decide ((b.size : Int) < 24) = false := decide_eq_false (by omega)
  have d2 : decide (400 ≤ (seqN b : Int)) = false := decide_eq_false (by omega)
  have d3 : decide ((seqN b : Int) < (s.next : Int)) = false := decide_eq_false (by omega)
  have d4 : decide ((s.next : Int) + 64 ≤ (seqN b : Int)) = false := decide_eq_false (by omega)
  have w1' : IntKind.i64.wrap ((s.next : Int) + 64) = (s.next : Int) + 64 := by rw [IntKind.wrap_i64]; omega
  have w2' : IntKind.i64.wrap (seqN b : Int) = (seqN b : Int) := by rw [IntKind.wrap_i64]; omega
  have hle8 : (8 : Int) ≤ (b.size : Int) := by omega
  have hW : Hid (s.W.length ≤ 900) := hlen
  have hN400 : seqN b < 400 := hform.2
  have HZ : Hid (seqsOf (s.W ++ [(seqN b, textR s.key b)]) = seqsOf s.W ++ [(seqN b : Int)] ∧ txtsOf (s.W ++ [(seqN b, textR s.key b)]) = txtsOf s.W ++ [textR s.key b]) := ⟨by simp [seqsOf], by simp [txtsOf]⟩
  have hrl := h.row.lt
  have d3' : decide (seqN b < s.next) = false := decide_eq_false (by omega)
  have d4' : decide (s.next + 64 ≤ seqN b) = false := decide_eq_false (by omega)
  clear hB hu1 hu2 e1 e2 he ho hf hopen hform hno hq3 hlen
  show Calls _ _ _ _ fun e w' => ∃ v, e = .returned (.tuple #[v, .int .i64 0]) ∧ MidR w w' r s.key (moreR s b).2.1 (moreR s b).2.2 (moreR s b).1 v
  generalize hTOT : moreR s b = TOT at *
  generalize hWW : s.W ++ [(seqN b, textR s.key b)] = W0 at *
  have HL0 : Hid (W0.length = s.W.length + 1) := by show _ = _; rw [← hWW]; simp
  clear hTOT hWW
  generalize textR s.key b = TX at *
  generalize seqN b = SQ at *
  have c0 : w.cell? ⟨r, 0, none⟩ = some (.string s.key) := h.row.cellAt rfl
  have c1 : w.cell? ⟨r, 1, none⟩ = some (.int .i64 (s.next : Int)) := h.row.cellAt rfl
  have HR : Hid (RefIs w r s vs vt) := h
  clear h
  go_enter Tryz.func21, Tryz.ntmps21
  go_wp2_with fail
  with_reducible refine (PB.out _).mono ?_
  rintro e w' ⟨rfl, rfl⟩
  go_wp2_with fail
  with_reducible refine (PB.out _).mono ?_
  rintro e w' ⟨rfl, rfl⟩
  go_wp2_with fail
  with_reducible refine (PA.out _ HR.out).mono ?_
  rintro e w' ⟨rfl, hww⟩
  obtain rfl := hww.symm
  go_wp2_with fail
  with_reducible refine (PU.out _).mono ?_
  rintro e w1 ⟨rfl, b1⟩
  have HR1 := HR.out.below b1
  have ht1 : Touch (fun k => k = r) w w1 := Touch.of_below b1
  have hs1 := b1.size
  clear HR c0 c1 b1 PB PA PU d1 d2 d3 d4
  have hrow1 : RowIs w1 r 33 [.string s.key, .int .i64 (s.next : Int), vs, vt] := HR1.row
  have hsS := seen_src (own_seen HR1.seqs)
  have hsT : Hid (OwnT w1 0 vt (txtsOf s.W)) := HR1.txts
  have hoT := HR1.offT
  obtain ⟨as_, cs_, rfl⟩ := HR1.seqs.shape
  clear HR1
  rw [cellsI_len] at hsS
  have hsl := seqsOf_len s.W
  have htl := txtsOf_len s.W
  rw [hsl] at hsS hrow1
  have HSL : Hid _ := hsl
  have HTL : Hid _ := htl
  clear hsl htl
  obtain ⟨NW, hNW⟩ : ∃ n, s.W.length = n := ⟨_, rfl⟩
  rw [hNW] at hsS hrow1 HSL HTL hW HL0 HM
  have hNW9 : NW ≤ 900 := hW.out
  generalize hSE : seqsOf s.W = SE at *
  generalize hTE : txtsOf s.W = TE at *
  have x2 : w1.cell? ⟨r, 2, none⟩ = some (.slice as_ NW cs_) := hrow1.cellAt rfl
  have hbT : ∀ k, vt.ownBlock = some k → k < w1.heap.size := fun k hk => (World.ownsRow.lt hsT.out k hk).2
  have hr1 : r < w1.heap.size := Nat.lt_of_lt_of_le hrl hs1
  -- the numbers
  go_wp2_with (first | (at_builtin; refine wpList_append_src _ rfl (.const (.slice none 0 0)) (.tmp 63) 30 rfl w1.heap.size 3 i0 (.int .i64 0) 8 Tryz.underlying30 hi0 hz0 hz1 hz2 rfl (.slice none 0 0) 0 [] rfl (World.ownsRow_nil _ _ _ _) (.slice as_ NW cs_) NW (cellsI SE) rfl hsS (cellsI_one _) (by unfold maxLen; omega) (by omega) (Nat.le_refl _) ?_))
  intro v1 w2 ho2 hg2 hat2
  have hrow2 := row_grow13 hrow1 hg2 (by simp [Value.ownBlock])
  have hsT2 : Hid (OwnT w2 0 vt TE) := own_grow13 hsT.out hg2 (fun k hk e => by simp [Value.ownBlock] at e)
  have ht2 := ht1.grown hg2 (fun k hk => by simp [Value.ownBlock] at hk)
  have hs2 := hg2.size
  clear hg2 hat2 hsS hrow1 ht1 hsT x2
  obtain ⟨av1, cv1, rfl⟩ := own_form ho2
  have hbv : ∀ k, (Value.slice av1 NW cv1).ownBlock = some k → w1.heap.size ≤ k := fun k hk => (World.ownsRow.lt ho2 k hk).1
  have ho2a := own_touch ho2 ((Touch.refl (fun _ => False) w2).alloc (.cells #[.int .i64 (SQ : Int)] 3)) (fun _ _ x => x)
  go_wp2_with (first | (at_builtin; refine wpList_append_two _ rfl (.tmp 64) (.tmp 66) 30 rfl w1.heap.size 3 i0 (.int .i64 0) 1 8 Tryz.underlying30 hi0 hz0 hz1 hz2 rfl (by decide) (.slice av1 NW cv1) NW (cellsI SE) rfl ho2a ⟨w2.heap.size, 0, none⟩ 1 1 [.int .i64 (SQ : Int)] rfl rfl (cell_one_new w2 (.int .i64 (SQ : Int)) 3) (by intro u hu; simp at hu; rw [hu]; rfl) (by unfold maxLen; omega) (by omega) (by simp; omega) ?_))
  intro v3 w3 ho3 hg3 hat3
  have hrow3 := row_grow13 (RowIs.alloc hrow2 (.cells #[.int .i64 (SQ : Int)] 3)) hg3 (fun e => by have := hbv r e; omega)
  have ht3 := (ht2.alloc (.cells #[.int .i64 (SQ : Int)] 3)).grown hg3 (fun k hk => Or.inr (Nat.le_trans hs1 (hbv k hk)))
  obtain ⟨av3, cv3, rfl⟩ := own_form ho3
  have hsT3 : Hid (OwnT w3 0 vt TE) := own_grow13 (own_touch hsT2.out ((Touch.refl (fun _ => False) w2).alloc (.cells #[.int .i64 (SQ : Int)] 3)) (fun _ _ x => x)) hg3 (fun k hk e => by have := hbv k e; have := hbT k hk; omega)
  have hs3 : w1.heap.size ≤ w3.heap.size := by have := hg3.size; simp at this; omega
  have x3 := hrow3.cellAt (j := 2) rfl
  have z3 := hrow3.frozen 2
  have hv3r : (Value.slice av3 (NW + 1) cv3).ownBlock ≠ some r := fun e => by have := (World.ownsRow.lt ho3 r e).1; omega
  have hb3 : ∀ k, (Value.slice av3 (NW + 1) cv3).ownBlock = some k → w1.heap.size ≤ k ∧ k < w3.heap.size := fun k hk => World.ownsRow.lt ho3 k hk
  have HO3 : Hid _ := hideC ho3
  have HROW3 : Hid _ := hideC hrow3
  have HT3 : Hid _ := hideC ht3
  clear ho2 ho2a hg3 hat3 hrow2 ht2 hsT2 ho3 hbv hrow3 ht3 hs2
  -- the texts
  obtain ⟨at_, ct_, hvt⟩ := (hsT3.out).shape
  rw [HTL.out] at hvt
  subst hvt
  have hrow4 := HROW3.out.set 2 (.slice av3 (NW + 1) cv3)
  have hsT4 : Hid (OwnT (w3.setCell ⟨r, 2, none⟩ (.slice av3 (NW + 1) cv3)) 0 (.slice at_ NW ct_) TE) := own_set13 hsT3.out hoT
  have ho4 : Hid ((w3.setCell ⟨r, 2, none⟩ (.slice av3 (NW + 1) cv3)).ownsRow w1.heap.size 3 1 (.slice av3 (NW + 1) cv3) (NW + 1) (cellsI SE ++ [.int .i64 (SQ : Int)])) := own_set13 HO3.out hv3r
  have ht4 := HT3.out.set (p := ⟨r, 2, none⟩) (Or.inl rfl) (.slice av3 (NW + 1) cv3)
  have hz4 : (w3.setCell ⟨r, 2, none⟩ (.slice av3 (NW + 1) cv3)).heap.size = w3.heap.size := by simp [World.setCell]
  have hsS4 := seen_src (own_seen hsT4.out)
  rw [cellsT_len13, HTL.out] at hsS4
  have x4 := hrow4.cellAt (j := 3) rfl
  have HROW4 : Hid _ := hideC hrow4
  have HT4 : Hid _ := hideC ht4
  clear HO3 HROW3 HT3 hrow4 ht4 hsT3
  go_wp2_with (first | (at_builtin; refine wpList_append_src _ rfl (.const (.slice none 0 0)) (.tmp 74) 31 rfl w3.heap.size 9 j0 (.string ⟨#[]⟩) 16 Tryz.underlying31 hj0 jz0 jz1 jz2 rfl (.slice none 0 0) 0 [] rfl (World.ownsRow_nil _ _ _ _) (.slice at_ NW ct_) NW (cellsT TE) rfl hsS4 (cellsT_one13 _) (by unfold maxLen; omega) (by omega) (by omega) ?_))
  intro v5 w5 ho5 hg5 hat5
  have hrow5 := row_grow13 HROW4.out hg5 (by simp [Value.ownBlock])
  have ho5s : Hid _ := hideC (own_grow13 ho4.out hg5 (fun k hk e => by simp [Value.ownBlock] at e))
  have ht5 := HT4.out.grown hg5 (fun k hk => by simp [Value.ownBlock] at hk)
  have hs5 : w3.heap.size ≤ w5.heap.size := by have := hg5.size; omega
  clear hg5 hat5 hsS4 HROW4 HT4 ho4 x4 x3 z3 hsT4
  obtain ⟨av5, cv5, rfl⟩ := own_form ho5
  have hbv : ∀ k, (Value.slice av5 NW cv5).ownBlock = some k → w3.heap.size ≤ k := fun k hk => (World.ownsRow.lt ho5 k hk).1
  have ho5a := own_touch ho5 ((Touch.refl (fun _ => False) w5).alloc (.cells #[.string TX] 9)) (fun _ _ x => x)
  go_wp2_with (first | (at_builtin; refine wpList_append_two _ rfl (.tmp 75) (.tmp 77) 31 rfl w3.heap.size 9 j0 (.string ⟨#[]⟩) 1 16 Tryz.underlying31 hj0 jz0 jz1 jz2 rfl (by decide) (.slice av5 NW cv5) NW (cellsT TE) rfl ho5a ⟨w5.heap.size, 0, none⟩ 1 1 [.string TX] rfl rfl (cell_one_new w5 (.string TX) 9) (by intro u hu; simp at hu; rw [hu]; rfl) (by unfold maxLen; omega) (by omega) (by simp; omega) ?_))
  intro v6 w6 ho6 hg6 hat6
  have hrow6 := row_grow13 (RowIs.alloc hrow5 (.cells #[.string TX] 9)) hg6 (fun e => by have := hbv r e; omega)
  have ht6 := (ht5.alloc (.cells #[.string TX] 9)).grown hg6 (fun k hk => Or.inr (by have := hbv k hk; omega))
  obtain ⟨av6, cv6, rfl⟩ := own_form ho6
  have ho6s : Hid _ := hideC (own_grow13 (own_touch ho5s.out ((Touch.refl (fun _ => False) w5).alloc (.cells #[.string TX] 9)) (fun _ _ x => x)) hg6 (fun k hk e => by have := hbv k e; have := hb3 k hk; omega))
  have x6 := hrow6.cellAt (j := 3) rfl
  have z6 := hrow6.frozen 3
  have hv6r : (Value.slice av6 (NW + 1) cv6).ownBlock ≠ some r := fun e => by have := (World.ownsRow.lt ho6 r e).1; omega
  have HMID : Hid (MidR w (w6.setCell ⟨r, 3, none⟩ (.slice av6 (NW + 1) cv6)) r s.key s.next W0 [] (.slice none 0 0)) := by
    refine ⟨⟨_, _, hrow6.set 3 (.slice av6 (NW + 1) cv6), ?_, ?_, fun k hk => by simp [Value.ownBlock] at hk⟩, ⟨rfl, Or.inl ⟨rfl, rfl⟩⟩, ht6.set (p := ⟨r, 3, none⟩) (Or.inl rfl) _, hrl⟩
    · rw [HZ.out.1]
      unfold OwnI
      rw [List.length_append, HSL.out, cellsI_append]
      exact own_base13 (own_set13 ho6s.out hv3r) hs1
    · rw [HZ.out.2]
      unfold OwnT
      rw [List.length_append, HTL.out]
      have e : cellsT (TE ++ [TX]) = cellsT TE ++ [.string TX] := by simp [cellsT]
      rw [e]
      exact own_base13 (own_set13 ho6 hv6r) (Nat.le_trans hs1 hs3)
  have y1 := hrow6.cellAt (j := 1) rfl
  clear ho5 ho5a hg6 hat6 hrow5 ht5 ho5s ho6 hrow6 ht6 ho6s hbv hs5
  go_wp2_with fail
  generalize w6.setCell ⟨r, 3, none⟩ (.slice av6 (NW + 1) cv6) = w7 at *
  have PA2 := HMID.out.at_ (by rw [HL0.out]; omega)
  with_reducible refine PA2.mono ?_
  rintro e w' ⟨rfl, rfl⟩
  have HP : Hid (([] : List ByteArray) ++ (tellW (NW + 1) s.next W0).1 = TOT.1 ∧ (tellW (NW + 1) s.next W0).2 = TOT.2) := by
    show _ ∧ _
    rw [HM.out]
    exact ⟨rfl, rfl⟩
  have HB0 : Hid (([] : List ByteArray).length + W0.length ≤ 1000) := by show _ ≤ _; rw [HL0.out]; simp; omega
  have HF0 : Hid (W0.length ≤ NW + 1 ∧ s.next + (NW + 1) ≤ 2000) := ⟨by rw [HL0.out]; exact Nat.le_refl _, by omega⟩
  clear PA2 HM HL0 y1 x6 z6 hv6r hv3r hb3 hs3 hs1 HSL HTL hbT hr1 HZ
  go_wp2_with fail
  go_loopw [10, 11] (fun vo kk wr => ∃ (f n : Nat) (W : Wait) (O : List ByteArray) (aO : Option Addr) (cO : Nat), vo = .slice aO O.length cO ∧ kk = .int .i64 (idxW W n) ∧ Hid (O ++ (tellW f n W).1 = TOT.1 ∧ (tellW f n W).2 = TOT.2) ∧ Hid (W.length ≤ f ∧ n + f ≤ 2000) ∧ Hid (O.length + W.length ≤ 1000) ∧ Hid (MidR w wr r s.key n W O (.slice aO O.length cO))) (fun _ _ wr => lenC (wr.cell? ⟨r, 2, none⟩))
  case atStart => exact ⟨NW + 1, s.next, W0, [], none, 0, rfl, rfl, HP.out, HF0.out, HB0.out, HMID.out⟩
  case round =>
    clear HP HF0 HB0 HMID
    obtain ⟨f, n, W, O, aO, cO, rfl, rfl, hP, hF, hBd, hMid⟩ := hrel
    cases hh : hasW W n with
    | false =>
      rw [idxW_no hh]
      have hp := hP.out
      rw [tell_no hh, List.append_nil] at hp
      have HFIN : Hid (MidR w wr r s.key TOT.2.1 TOT.2.2 TOT.1 (.slice aO O.length cO)) := by
        rw [← hp.1, ← hp.2]
        exact hMid.out
      clear hp hP hF hBd hMid hh
      go_wp2
      go_ret2
      exact ⟨_, rfl, HFIN.out⟩
    | true =>
      have hK := atW_lt hh
      rw [idxW_yes hh]
      obtain ⟨f', rfl⟩ : ∃ f', f = f' + 1 := ⟨f - 1, by have := hF.out.1; have := has_pos hh; omega⟩
      have hp := hP.out
      rw [tell_yes hh] at hp
      have HP2 : Hid ((O ++ [(W.getD (atW W n) (0, ⟨#[]⟩)).2]) ++ (tellW f' (n + 1) (W.eraseIdx (atW W n))).1 = TOT.1 ∧ (tellW f' (n + 1) (W.eraseIdx (atW W n))).2 = TOT.2) := by
        show _ ∧ _
        refine ⟨?_, hp.2⟩
        rw [List.append_assoc]
        exact hp.1
      clear hp hP
      obtain ⟨vs', vt', hrow, hS, hT, hap⟩ := hMid.out.ref
      have hout := hMid.out.out
      have htch := hMid.out.tch
      obtain ⟨N, hN⟩ : ∃ N, W.length = N := ⟨_, rfl⟩
      have hsl := seqsOf_len W
      have htl := txtsOf_len W
      have hta := txtsOf_at W (atW W n) hK
      have hSe := seqs_erase W (atW W n)
      have hTe := txts_erase W (atW W n)
      have hEl := erase_len13 W (atW W n) hK
      have hSel := seqsOf_len (W.eraseIdx (atW W n))
      have hTel := txtsOf_len (W.eraseIdx (atW W n))
      rw [hEl] at hSel hTel
      rw [hN] at hsl htl hK hSel hTel hEl
      have hBd2 := hBd.out
      have hF2 := hF.out
      rw [hN] at hBd2 hF2
      generalize (W.getD (atW W n) (0, ⟨#[]⟩)).2 = TK at *
      generalize atW W n = Kx at *
      have HBn : Hid ((O ++ [TK]).length + (W.eraseIdx Kx).length ≤ 1000) := by show _ ≤ _; rw [hEl, List.length_append, List.length_singleton]; omega
      have HFn : Hid ((W.eraseIdx Kx).length ≤ f' ∧ (n + 1) + f' ≤ 2000) := ⟨by rw [hEl]; omega, by omega⟩
      generalize hWE : W.eraseIdx Kx = WE at *
      generalize hSW : seqsOf W = SW at *
      generalize hTW : txtsOf W = TW at *
      obtain ⟨gs, cs2, rfl, hgs1, hgs2⟩ := hS.form (by rw [hsl]; omega)
      obtain ⟨gt, ct2, rfl, hgt1, hgt2⟩ := hT.form (by rw [htl]; omega)
      rw [hsl] at hrow hS hap
      rw [htl] at hrow hT hap
      have cK := hT.cell htl.symm Kx (by omega)
      rw [hta] at cK
      have HT0 : Hid (OwnT wr w.heap.size (.slice (some ⟨gt, 0, none⟩) N ct2) TW) := hT
      have HS0 : Hid (OwnI wr w.heap.size (.slice (some ⟨gs, 0, none⟩) N cs2) SW) := hS
      have HROW : Hid _ := hideC hrow
      have HTCH : Hid _ := hideC htch
      have x3 := hrow.cellAt (j := 3) rfl
      have LEN : Hid (lenC (wr.cell? ⟨r, 2, none⟩) = N) := by
        show _ = _
        rw [hrow.cellAt (j := 2) rfl]
        rfl
      have k0 : (0 : Int) ≤ (Kx : Int) := by omega
      have k1 : (Kx : Int) < (N : Int) := by omega
      have hlt9 := hrow.lt
      have hO9 : O.length ≤ 1000 := by omega
      have hN9 : N ≤ 1000 := by omega
      obtain ⟨OL, hOL⟩ : ∃ OL, O.length = OL := ⟨_, rfl⟩
      rw [hOL] at hout hap hO9
      have ho0 : wr.ownsRow w.heap.size 9 1 (.slice aO OL cO) OL (cellsT O) := by unfold OwnT at hout; rwa [hOL] at hout
      have HO0 : Hid _ := hideC ho0
      have HAP : Hid _ := hideC hap
      have hw9 := htch.size
      have ho0a := own_touch ho0 ((Touch.refl (fun _ => False) wr).alloc (.cells #[.string TK] 9)) (fun _ _ x => x)
      clear hMid hout htch hS hT hrow hap hF hBd hBd2 ho0
      rw [hOL]
      go_wp2_with (first | (at_builtin; refine wpList_append_two _ rfl (.tmp 95) (.tmp 103) 31 rfl w.heap.size 9 j0 (.string ⟨#[]⟩) 1 16 Tryz.underlying31 hj0 jz0 jz1 jz2 rfl (by decide) (.slice aO OL cO) OL (cellsT O) rfl ho0a ⟨wr.heap.size, 0, none⟩ 1 1 [.string TK] rfl rfl (cell_one_new wr (.string TK) 9) (by intro u hu; simp at hu; rw [hu]; rfl) (by unfold maxLen; omega) (by omega) (by simp; omega) ?_))
      intro vo2 w2 ho2 hg2 hat2
      have hz2' : (wr.alloc (.cells #[.string TK] 9)).heap.size = wr.heap.size + 1 := by simp
      have hbo : ∀ k, (Value.slice aO OL cO).ownBlock = some k → w.heap.size ≤ k ∧ k < wr.heap.size := fun k hk => World.ownsRow.lt HO0.out k hk
      have hrow2 := row_grow13 (RowIs.alloc HROW.out (.cells #[.string TK] 9)) hg2 (fun e => by have := (hbo r e).1; omega)
      have htch2 := (HTCH.out.alloc (.cells #[.string TK] 9)).grown hg2 (fun k hk => Or.inr (hbo k hk).1)
      have hS2 := own_grow13 (own_touch HS0.out ((Touch.refl (fun _ => False) wr).alloc (.cells #[.string TK] 9)) (fun _ _ x => x)) hg2 (fun k hk e => (HAP.out k e).1 hk)
      have hT2 := own_grow13 (own_touch HT0.out ((Touch.refl (fun _ => False) wr).alloc (.cells #[.string TK] 9)) (fun _ _ x => x)) hg2 (fun k hk e => (HAP.out k e).2 hk)
      have hap2 : ∀ k, vo2.ownBlock = some k → gs ≠ k ∧ gt ≠ k := fun k hk => by
        rcases hat2 with e | ⟨e, _⟩
        · rw [e] at hk
          have := HAP.out k hk
          simpa [Value.ownBlock] using this
        · rw [e] at hk
          have := Option.some.inj hk
          omega
      have hz22 : wr.heap.size + 1 ≤ w2.heap.size := by have := hg2.size; omega
      obtain ⟨ao2, co2, rfl⟩ := own_form ho2
      have HO2 : Hid _ := hideC ho2
      have HROW2 : Hid _ := hideC hrow2
      have HTCH2 : Hid _ := hideC htch2
      have HS2 : Hid (w2.ownsRow w.heap.size 3 1 (.slice (some ⟨gs, 0, none⟩) N cs2) N (cellsI SW)) := by
        have := hS2
        rwa [hsl] at this
      have HT2 : Hid (w2.ownsRow w.heap.size 9 1 (.slice (some ⟨gt, 0, none⟩) N ct2) N (cellsT TW)) := by
        have := hT2
        rwa [htl] at this
      have HAP2 : Hid _ := hideC hap2
      have HOL : Hid _ := hideC hOL
      have hcI : (cellsI SW).length = N := by rw [cellsI_len, hsl]
      have hcT : (cellsT TW).length = N := by rw [cellsT_len13, htl]
      have hcI1 : ∀ u ∈ cellsI SW, u.oneCell' = true := cellsI_one SW
      have hcT1 : ∀ u ∈ cellsT TW, u.oneCell' = true := cellsT_one13 TW
      have HIC : Hid _ := hideC hcI
      have HTC : Hid _ := hideC hcT
      have HI1 : Hid _ := hideC hcI1
      have HT1 : Hid _ := hideC hcT1
      have HSE : Hid _ := hideC hSe
      have HTE : Hid _ := hideC hTe
      have HSEL : Hid _ := hideC hSel
      have HTEL : Hid _ := hideC hTel
      have x1 := hrow2.cellAt (j := 1) rfl
      clear ho0a ho2 hg2 hat2 hrow2 htch2 hS2 hT2 hap2 HROW HTCH HS0 HT0 HO0 HAP cK x3 hcI hcT hcI1 hcT1 hSe hTe hSel hTel hbo hz2' hta hsl htl hEl hOL
      generalize cellsI SW = CI at *
      generalize cellsT TW = CT at *
      have wn : IntKind.i64.wrap ((n : Int) + 1) = (n : Int) + 1 := by rw [IntKind.wrap_i64]; omega
      go_wp2_with fail
      refine cutI_region r gs N cs2 Kx (.string s.key) (.int .i64 (n : Int)) (.slice (some ⟨gt, 0, none⟩) N ct2) CI HI1.out hK (by omega) HIC.out (by kernel_rfl) (by kernel_rfl) (by kernel_rfl) rfl rfl rfl HROW2.out (own_base13 HS2.out (Nat.zero_le _)) (by omega) ?_
      intro u105 u106 u107 u108 u109 u110 u111 u112 u113 u114 u115 u116 u117 u118 u119 u120 u121 u122 w3 ow3 rw3 tw3
      have hs23 := tw3.size
      have ht3' : Hid (w3.ownsRow w.heap.size 9 1 (.slice (some ⟨gt, 0, none⟩) N ct2) N CT) := own_touch HT2.out tw3 (fun k hk e => by have := (World.ownsRow.lt HT2.out k hk).1; omega)
      have ho3' : Hid (w3.ownsRow w.heap.size 9 1 (.slice ao2 (OL + 1) co2) (OL + 1) (cellsT O ++ [.string TK])) := own_touch HO2.out tw3 (fun k hk e => by have := (World.ownsRow.lt HO2.out k hk).1; omega)
      have hb3 : ∀ k, u120.ownBlock = some k → w2.heap.size ≤ k ∧ k < w3.heap.size := fun k hk => World.ownsRow.lt ow3 k hk
      have HOW3 : Hid _ := hideC ow3
      have HRW3 : Hid _ := hideC rw3
      have HTW3 : Hid _ := hideC (HTCH2.out.trans (tw3.mono (fun k _ hk => hk)))
      have HB3 : Hid _ := hideC hb3
      clear HROW2 HS2 HT2 HTCH2 tw3 ow3 rw3 hb3 x1
      simp only [Act.put, List.setIfInBounds_toArray, List.set]
      rename_i KK1 hKK1
      refine hKK1 _ _ ?_
      go_wp2_with fail
      refine cutT_region r gt N ct2 Kx (.string s.key) (.int .i64 (n : Int)) u120 CT HT1.out hK (by omega) HTC.out (by kernel_rfl) (by kernel_rfl) (by kernel_rfl) rfl rfl rfl HRW3.out (own_base13 ht3'.out (Nat.zero_le _)) (by omega) ?_
      intro u123 u124 u125 u126 u127 u128 u129 u130 u131 u132 u133 u134 u135 u136 u137 u138 u139 u140 w4 ow4 rw4 tw4
      have hs34 := tw4.size
      have ho4' : Hid (w4.ownsRow w.heap.size 9 1 (.slice ao2 (OL + 1) co2) (OL + 1) (cellsT O ++ [.string TK])) := own_touch ho3'.out tw4 (fun k hk e => by have := (World.ownsRow.lt ho3'.out k hk).1; omega)
      have hs4' : Hid (w4.ownsRow w2.heap.size 3 1 u120 (N - 1) (CI.take Kx ++ CI.drop (Kx + 1))) := own_touch HOW3.out tw4 (fun k hk e => by have := (HB3.out k hk).1; omega)
      have htc4 := HTW3.out.trans (tw4.mono (fun k _ hk => hk))
      have y1 := rw4.cellAt (j := 1) rfl
      have y2 := rw4.cellAt (j := 2) rfl
      have q1 := rw4.frozen 1
      have hw24 : w.heap.size ≤ w2.heap.size := by omega
      have MID : Hid (MidR w (w4.setCell ⟨r, 1, none⟩ (.int .i64 ((n : Int) + 1))) r s.key (n + 1) WE (O ++ [TK]) (.slice ao2 (OL + 1) co2)) := by
        refine ⟨⟨u120, u138, rw4.set 1 _, ?_, ?_, fun k hk => ⟨fun e => ?_, fun e => ?_⟩⟩, ?_, htc4.set (p := ⟨r, 1, none⟩) (Or.inl rfl) _, hrl⟩
        · unfold OwnI
          rw [HSEL.out, HSE.out]
          exact own_base13 (own_set13 hs4'.out (fun e => by have := (HB3.out r e).1; omega)) hw24
        · unfold OwnT
          rw [HTEL.out, HTE.out]
          exact own_base13 (own_set13 ow4 (fun e => by have := (World.ownsRow.lt ow4 r e).1; omega)) (by omega)
        · have h1 := (World.ownsRow.lt HO2.out k hk).2
          have h2 := (HB3.out k e).1
          omega
        · have h1 := (World.ownsRow.lt HO2.out k hk).2
          have h2 := (World.ownsRow.lt ow4 k e).1
          omega
        · unfold OwnT
          rw [List.length_append, List.length_singleton, HOL.out]
          have e : cellsT (O ++ [TK]) = cellsT O ++ [.string TK] := by simp [cellsT]
          rw [e]
          exact own_set13 ho4'.out (fun e => by have := (World.ownsRow.lt ho4'.out r e).1; omega)
      have LEN2 : Hid (lenC ((w4.setCell ⟨r, 1, none⟩ (.int .i64 ((n : Int) + 1))).cell? ⟨r, 2, none⟩) = N - 1) := by
        show _ = _
        rw [(rw4.set 1 (.int .i64 ((n : Int) + 1))).cellAt (j := 2) rfl]
        obtain ⟨a9, c9, e9⟩ := own_form hs4'.out
        rw [e9]
        rfl
      have HLO : Hid ((O ++ [TK]).length = OL + 1) := by show _ = _; rw [List.length_append, List.length_singleton, HOL.out]
      clear HOW3 HRW3 HTW3 ht3' ho3' ho4' hs4' htc4 tw4 ow4 rw4 HO2 HSE HTE HIC HTC HI1 HT1 y2
      simp only [Act.put, List.setIfInBounds_toArray, List.set]
      rename_i KK2 hKK2
      refine hKK2 _ _ ?_
      go_wp2_with fail
      generalize w4.setCell ⟨r, 1, none⟩ (.int .i64 ((n : Int) + 1)) = w5 at *
      have PA3 : Calls Tryz.prog 49 #[.pointer (some ⟨r, 0, none⟩), .int .i64 ((n : Int) + 1)] w5 fun e w' => e = .returned (.int .i64 (idxW WE (n + 1))) ∧ w5 = w' := MID.out.at_ (by have := HBn.out; omega)
      with_reducible refine PA3.mono ?_
      rintro e w' ⟨rfl, rfl⟩
      clear PA3 y1 q1
      go_wp2
      go_roundw
      case rel => exact ⟨f', n + 1, WE, O ++ [TK], ao2, co2, by rw [HLO.out], rfl, HP2.out, HFn.out, HBn.out, by rw [HLO.out]; exact MID.out⟩
      case measure => rw [LEN2.out, LEN.out]; omega

end Go.Proofs.YtanghehmfagmfaaGreatDoor

/-
  The reference's In opens a record that may not be taken; and among things side by side.
-/
namespace Go.Proofs.YtanghehmfagmfaaGreatDoor
open Go.RowKit
set_option linter.unusedVariables false
set_option maxRecDepth 100000
set_option linter.unusedSimpArgs false

set_option maxRecDepth 100000 in
set_option maxHeartbeats 4000000 in
theorem ref_open_no (r : Nat) (s : InS) (vs vt : Value) (b : ByteArray) (w : World) (h : RefIs w r s vs vt) (hlen : s.W.length ≤ 900) (hk : s.key.size = 32) (hnx : s.next ≤ 400) (hb : b.size ≤ 1000000) (he : errR s b ≠ 0) :
    Calls Tryz.prog 21 #[.pointer (some ⟨r, 0, none⟩), .string b] w fun e w' => e = .returned (.tuple #[.slice none 0 0, .int .i64 (errR s b : Int)]) ∧ Below w.heap.size w w' := by
  have HE : Hid _ := err_cases s b
  by_cases h24 : b.size < 24
  · have hE : errR s b = 2 := err_form (decide_eq_false (by omega))
    rw [hE]
    have d1 : decide ((b.size : Int) < 24) = true := decide_eq_true (by omega)
    clear HE hE he h
    go_enter Tryz.func21, Tryz.ntmps21
    go_wp2
    go_ret2
    exact ⟨rfl, Below.refl _ _⟩
  have d1 : decide ((b.size : Int) < 24) = false := decide_eq_false (by omega)
  have hle8 : (8 : Int) ≤ (b.size : Int) := by omega
  have hB := fun w => ref_big (b.extract 0 8) w (by unfold maxLen; simp; omega)
  rw [← seqN_is b] at hB
  have PB : Hid _ := hB
  clear hB
  by_cases h4 : 400 ≤ seqN b
  · have hE : errR s b = 2 := num_no s b h4
    rw [hE]
    have d2 : decide (400 ≤ (seqN b : Int)) = true := decide_eq_true (by omega)
    generalize seqN b = SQ at *
    clear HE hE he h
    go_enter Tryz.func21, Tryz.ntmps21
    go_wp2_with fail
    with_reducible refine (PB.out _).mono ?_
    rintro e w' ⟨rfl, rfl⟩
    go_wp2
    go_ret2
    exact ⟨rfl, Below.refl _ _⟩
  have d2 : decide (400 ≤ (seqN b : Int)) = false := decide_eq_false (by omega)
  have hf : formR b = true := decide_eq_true ⟨by omega, by omega⟩
  have w1' : IntKind.i64.wrap ((s.next : Int) + 64) = (s.next : Int) + 64 := by rw [IntKind.wrap_i64]; omega
  have w2' : IntKind.i64.wrap (seqN b : Int) = (seqN b : Int) := by rw [IntKind.wrap_i64]; omega
  have c1 : w.cell? ⟨r, 1, none⟩ = some (.int .i64 (s.next : Int)) := h.row.cellAt rfl
  by_cases h5 : seqN b < s.next
  · have hE : errR s b = 4 := err_old hf (by unfold oldR; rw [decide_eq_true (Or.inl h5)]; rfl)
    rw [hE]
    have d3 : decide (seqN b < s.next) = true := decide_eq_true h5
    have d3' : decide ((seqN b : Int) < (s.next : Int)) = true := decide_eq_true (by omega)
    generalize seqN b = SQ at *
    clear HE hE he h hf
    go_enter Tryz.func21, Tryz.ntmps21
    go_wp2_with fail
    with_reducible refine (PB.out _).mono ?_
    rintro e w' ⟨rfl, rfl⟩
    go_wp2_with fail
    with_reducible refine (PB.out _).mono ?_
    rintro e w' ⟨rfl, rfl⟩
    go_wp2
    go_ret2
    exact ⟨rfl, Below.refl _ _⟩
  have d3 : decide (seqN b < s.next) = false := decide_eq_false h5
  have d3' : decide ((seqN b : Int) < (s.next : Int)) = false := decide_eq_false (by omega)
  by_cases h6 : s.next + 64 ≤ seqN b
  · have hE : errR s b = 4 := err_old hf (by unfold oldR; rw [decide_eq_true (Or.inr h6)]; rfl)
    rw [hE]
    have d4 : decide (s.next + 64 ≤ seqN b) = true := decide_eq_true h6
    have d4' : decide ((s.next : Int) + 64 ≤ (seqN b : Int)) = true := decide_eq_true (by omega)
    generalize seqN b = SQ at *
    clear HE hE he h hf
    go_enter Tryz.func21, Tryz.ntmps21
    go_wp2_with fail
    with_reducible refine (PB.out _).mono ?_
    rintro e w' ⟨rfl, rfl⟩
    go_wp2_with fail
    with_reducible refine (PB.out _).mono ?_
    rintro e w' ⟨rfl, rfl⟩
    go_wp2
    go_ret2
    exact ⟨rfl, Below.refl _ _⟩
  have d4 : decide (s.next + 64 ≤ seqN b) = false := decide_eq_false h6
  have d4' : decide ((s.next : Int) + 64 ≤ (seqN b : Int)) = false := decide_eq_false (by omega)
  have PA : Hid _ := fun w1 (h1 : RefIs w1 r s vs vt) => ref_at r (seqN b) s vs vt w1 h1 (by omega)
  cases hh : hasW s.W (seqN b) with
  | true =>
    have hE : errR s b = 4 := err_old hf (by unfold oldR; rw [hh, Bool.or_true])
    rw [hE]
    rw [idxW_yes hh] at PA
    have hp : (0 : Int) ≤ (atW s.W (seqN b) : Int) := by omega
    generalize atW s.W (seqN b) = A at *
    have d5 : decide ((0 : Int) ≤ (A : Int)) = true := decide_eq_true (by omega)
    clear hh hf
    generalize seqN b = SQ at *
    have HR : Hid (RefIs w r s vs vt) := h
    clear HE hE he h
    go_enter Tryz.func21, Tryz.ntmps21
    go_wp2_with fail
    with_reducible refine (PB.out _).mono ?_
    rintro e w' ⟨rfl, rfl⟩
    go_wp2_with fail
    with_reducible refine (PB.out _).mono ?_
    rintro e w' ⟨rfl, rfl⟩
    go_wp2_with fail
    with_reducible refine (PA.out _ HR.out).mono ?_
    rintro e w' ⟨rfl, hww⟩
    obtain rfl := hww.symm
    go_wp2
    go_ret2
    exact ⟨rfl, Below.refl _ _⟩
  | false =>
    have ho : oldR s b = false := by unfold oldR; rw [hh, Bool.or_false]; exact decide_eq_false (by omega)
    have hop : openR s.key b = false := by
      cases hq : openR s.key b with
      | false => rfl
      | true => exact absurd (err_ok hf ho hq) he
    have hE : errR s b = 3 := err_seal hf ho hop
    have hu : unE s.key b = 3 := by unfold unE; rw [hf, hop]; rfl
    have PU : Hid _ := fun w1 => ref_unrecord s.key b w1 hk hb
    rw [hu] at PU
    rw [hE]
    rw [idxW_no hh] at PA
    have c0 : w.cell? ⟨r, 0, none⟩ = some (.string s.key) := h.row.cellAt rfl
    clear hh hf ho hop hu
    generalize unN b = UN at *
    generalize unT s.key b = UT at *
    generalize seqN b = SQ at *
    have HR : Hid (RefIs w r s vs vt) := h
    clear HE hE he h
    go_enter Tryz.func21, Tryz.ntmps21
    go_wp2_with fail
    with_reducible refine (PB.out _).mono ?_
    rintro e w' ⟨rfl, rfl⟩
    go_wp2_with fail
    with_reducible refine (PB.out _).mono ?_
    rintro e w' ⟨rfl, rfl⟩
    go_wp2_with fail
    with_reducible refine (PA.out _ HR.out).mono ?_
    rintro e w' ⟨rfl, hww⟩
    obtain rfl := hww.symm
    go_wp2_with fail
    with_reducible refine (PU.out _).mono ?_
    rintro e w1 ⟨rfl, b1⟩
    go_wp2
    go_ret2
    exact ⟨rfl, b1⟩

/-- The reference's In, its two lists named. -/
def RefVTh (r : Nat) (s : InS) (vs vt : Value) : Thing where
  At w bl := RefIs w r s vs vt ∧ ∀ k, bl k ↔ k = r ∨ vs.ownBlock = some k ∨ vt.ownBlock = some k
  lt := by
    rintro w bl ⟨h, hb⟩ k hk
    rcases (hb k).1 hk with rfl | hk | hk
    · exact h.row.lt
    · exact (World.ownsRow.lt h.seqs k hk).2
    · exact (World.ownsRow.lt h.txts k hk).2
  keep := by
    rintro S w w' bl ⟨h, hb⟩ ht hn
    exact ⟨h.keep ht (fun k hk => hn k ((hb k).2 hk)), hb⟩
theorem Here.ref {w0 w : World} {l : List Thing} {r : Nat} {s : InS} {vs vt : Value} (h : Here w0 l w) (i : Nat) (hi : l[i]? = some (RefVTh r s vs vt)) : RefIs w r s vs vt := by
  obtain ⟨bl, hP, _, _⟩ := h.focus i hi
  exact hP.1
theorem Here.newRefV {w0 w : World} {l : List Thing} (h : Here w0 l w) (k : ByteArray) : Here w0 (RefVTh w.heap.size (InS.zero k) (.slice none 0 0) (.slice none 0 0) :: l) (w.alloc (.cells #[.string k, .int .i64 0, .slice none 0 0, .slice none 0 0] 33)) := by
  refine h.new (bn := fun j => j = w.heap.size) ⟨⟨RowIs.new w _ [.string k, .int .i64 0, .slice none 0 0, .slice none 0 0], ⟨rfl, Or.inl ⟨rfl, rfl⟩⟩, ⟨rfl, Or.inl ⟨rfl, rfl⟩⟩, by simp [Value.ownBlock], by simp [Value.ownBlock]⟩, fun j => by simp [Value.ownBlock]⟩ (fun j hj => by omega) ((Below.refl _ _).alloc (Nat.le_refl _) _)
theorem step_eta (s : InS) (b : ByteArray) : (⟨s.key, (stepR s b).next, (stepR s b).W⟩ : InS) = stepR s b := by
  have h := stepR_key s b
  cases hs : stepR s b with
  | mk k n W =>
    rw [hs] at h
    show (⟨s.key, n, W⟩ : InS) = ⟨k, n, W⟩
    rw [← h]
theorem Here.refOpen {w0 w : World} {l : List Thing} {r : Nat} {s : InS} {vs vt : Value} (h : Here w0 l w) (i : Nat) (b : ByteArray) (hi : l[i]? = some (RefVTh r s vs vt)) (hlen : s.W.length ≤ 900) (hk : s.key.size = 32) (hnx : s.next ≤ 400) (hb : b.size ≤ 1000000) :
    Calls Tryz.prog 21 #[.pointer (some ⟨r, 0, none⟩), .string b] w fun e w' => ∃ a c vs' vt', e = .returned (.tuple #[.slice a (outR s b).length c, .int .i64 (errR s b : Int)]) ∧ Here w0 (TextsTh w0.heap.size (.slice a (outR s b).length c) (outR s b) :: l.set i (RefVTh r (stepR s b) vs' vt')) w' := by
  obtain ⟨bl, ⟨hR, hbl⟩, _, hstep⟩ := h.focus2 i hi
  by_cases he : errR s b = 0
  · refine (ref_open_ok r s vs vt b w hR hlen hk hnx hb he).mono ?_
    rintro e w' ⟨v, rfl, hM⟩
    obtain ⟨vs', vt', hrow, hS, hT, hap⟩ := hM.ref
    obtain ⟨a, c, rfl⟩ := hM.out.shape
    rw [he]
    have hlt := hM.lt
    have hvr : ∀ {v : Value} {E : TypeId} {n : Nat} {cs : List Value}, w'.ownsRow w.heap.size E 1 v n cs → v.ownBlock ≠ some r := fun h e => by have := (World.ownsRow.lt h r e).1; omega
    refine ⟨a, c, vs', vt', rfl, hstep (RefVTh r (stepR s b) vs' vt') (TextsTh w0.heap.size _ (outR s b)) w' (fun k => k = r ∨ vs'.ownBlock = some k ∨ vt'.ownBlock = some k) (fun k => (Value.slice a (outR s b).length c).ownBlock = some k) ⟨?_, fun k => Iff.rfl⟩ (fun k hk => ?_) ⟨hM.out.base h.sz, fun k => Iff.rfl⟩ (fun k hk => ⟨(World.ownsRow.lt hM.out k hk).1, fun hk2 => ?_⟩) (hM.tch.mono (fun k _ hk => (hbl k).2 (Or.inl hk)))⟩
    · rw [← step_eta]
      exact ⟨hrow, hS.base (Nat.zero_le _), hT.base (Nat.zero_le _), hvr hS, hvr hT⟩
    · rcases hk with rfl | hk | hk
      · exact Or.inl ((hbl _).2 (Or.inl rfl))
      · exact Or.inr (World.ownsRow.lt hS k hk).1
      · exact Or.inr (World.ownsRow.lt hT k hk).1
    · rcases hk2 with rfl | hk2 | hk2
      · exact hvr hM.out hk
      · exact (hap k hk).1 hk2
      · exact (hap k hk).2 hk2
  · refine (ref_open_no r s vs vt b w hR hlen hk hnx hb he).mono ?_
    rintro e w' ⟨rfl, hbel⟩
    obtain ⟨n1, n2⟩ := step_no he
    rw [n1, n2]
    refine ⟨none, 0, vs, vt, rfl, hstep (RefVTh r s vs vt) (TextsTh w0.heap.size (.slice none 0 0) []) w' bl (fun _ => False) ⟨hR.below hbel, hbl⟩ (fun k hk => Or.inl hk) ⟨⟨rfl, Or.inl ⟨rfl, rfl⟩⟩, fun k => by simp [Value.ownBlock]⟩ (fun k hk => hk.elim) (Touch.of_below hbel)⟩

end Go.Proofs.YtanghehmfagmfaaGreatDoor
