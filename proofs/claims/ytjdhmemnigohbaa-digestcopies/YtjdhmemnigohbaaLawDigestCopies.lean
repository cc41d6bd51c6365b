/- Promise P202: for every list of texts the law DigestCopies answers true at the landed code: copies of a Digest go on by themselves, each from where it was made. No condition; lists of more than 12 texts and texts of more than 100 bytes the law itself lets by. -/
import Derived.Test.YtjdhmemnigohbaaRows
import Derived.WalkKit
import Derived.ProofKit
import Derived.OpenShut
import Derived.ShutString
import Derived.Carry
import Derived.Test.YtjdhmemnigohbaaStrs0
import Derived.Test.YtjdhmemnigohbaaCopies2
import Derived.Deep.RegionHeld3
namespace Go.Proofs.Ytjdhmemnigohbaa.digestCopies
open Go.ChangeShapes Go.WideShapes Go.ChangeAt Go.RowKit
open Go.ChangeMaps (open_string shut_string)
set_option linter.unusedVariables false

theorem own : ownKnob Try.prog.godebug = none := by kernel_rfl
theorem laidOut : laidOutB Try.prog = true := by kernel_rfl

set_option maxHeartbeats 4000000 in
set_option maxRecDepth 100000 in
theorem walk (o0 : Option Addr) (n0 c0 : Nat) (L0 : Nat → List UInt8) (l0 : n0 ≤ maxLen) (w : World) (s0 : StrsAt w o0 n0 L0) :
    Calls Try.prog 8 #[.slice o0 n0 c0] w fun e w' => e = .returned (.bool true) ∧ Below w.heap.size w w' := by
  unfold maxLen at l0
  by_cases d0 : 12 < n0
  · go_enter Try.func8, Try.ntmps8
    go_wp2_with fail
    refine (alive2_any _).mono ?_
    rintro e w1 ⟨rfl, b1⟩
    go_wp2
    go_ret
    exact ⟨rfl, b1⟩
  have hn12 : n0 ≤ 12 := by omega
  clear l0
  obtain ⟨iP, hiP, hP0, hP1, hP2⟩ := info_parts infoP
  obtain ⟨iS, hiS, hS0, hS1, hS2⟩ := info_parts infoS
  go_enter Try.func8, Try.ntmps8
  go_wp2_with fail
  refine (alive2_any _).mono ?_
  rintro e w1 ⟨rfl, b1⟩
  have hd := fresh_zero w1
  have b2 : Below w.heap.size w (w1.alloc (.cells Try.zeroCells43 43)) := b1.alloc b1.size _
  have hs0 : w.heap.size ≤ w1.heap.size := b1.size
  clear b1
  go_wp2
  generalize w1.alloc (.cells Try.zeroCells43 43) = w2 at *
  generalize w1.heap.size = g at *
  have S0 : Hid (StrsAt w o0 n0 L0) := s0
  clear s0
  go_loopw [4, 5, 6, 7] (fun v v5 v6 i wr => ∃ (k : Nat) (C : Nat → Nat), k ≤ n0 ∧ i = .int .i64 k ∧ v = .string (str (joinTo L0 k)) ∧ (∀ m, m ≤ k → (joinTo L0 m).length ≤ 100 * m) ∧ DigAt wr g (joinTo L0 k) ∧ Cop w.heap.size g L0 k C v5 v6 wr ∧ Below w.heap.size w wr) (fun _ _ _ i _ => n0 - (intOf i).toNat)
  case atStart =>
    exact ⟨0, fun _ => 0, by omega, rfl, rfl, fun m hm => by rw [show m = 0 from by omega]; simp [joinTo], hd, Cop.start _ _ _ _, b2⟩
  case round =>
    clear hd b2
    obtain ⟨k, C, hk, rfl, rfl, hjl, hd, hcop, hbel⟩ := hrel
    have HJL : Hid (∀ m, m ≤ k → (joinTo L0 m).length ≤ 100 * m) := hjl
    have hjk := hjl k (Nat.le_refl _)
    clear hjl
    have hszk : (str (joinTo L0 k)).size = (joinTo L0 k).length := str_size _
    by_cases hlt : k < n0
    · obtain ⟨bb, oo, rfl, hc⟩ := S0.out.later hbel k hlt
      have HL : Hid (∀ w', Below w.heap.size w w' → w'.cell? ⟨bb, oo + k, none⟩ = some (.string (str (L0 k)))) := by
        intro w' hb
        obtain ⟨b', o', h1, h2⟩ := S0.out.later hb k hlt
        simp only [Option.some.injEq, Addr.mk.injEq] at h1
        obtain ⟨rfl, rfl, _⟩ := h1
        exact h2
      have hsz : (str (L0 k)).size = (L0 k).length := str_size _
      by_cases hlong : 100 < (L0 k).length
      · go_wp2
        go_ret
        exact ⟨rfl, hbel⟩
      have HJ : Hid (joinTo L0 (k + 1) = joinTo L0 k ++ L0 k) := rfl
      have HJL1 : Hid (∀ m, m ≤ k + 1 → (joinTo L0 m).length ≤ 100 * m) := by
        intro m hm
        by_cases h : m ≤ k
        · exact HJL.out m h
        · rw [show m = k + 1 from by omega, HJ.out, List.length_append]; omega
      have hcat : str (joinTo L0 k) ++ str (L0 k) = str (joinTo L0 (k + 1)) := str_cat _ _
      have hln : ¬ (9223372036854775807 < (joinTo L0 k).length + (L0 k).length) := by omega
      go_wp2_with fail
      refine (dig_copy g (joinTo L0 k) _ hd).mono ?_
      rintro e w3 ⟨cb, rfl, hcn, hrc, hrd, hu3⟩
      have b3 := upon_below hbel hu3 hs0
      have hcb : w.heap.size ≤ cb := Nat.le_trans hbel.size hcn
      have hcg : cb ≠ g := by have := hd.lt; omega
      have hcop3 := hcop.kept (fun b hb hn => hu3.block b hb hn)
      have hcC : ∀ i, i < k → C i ≠ cb := fun i hi => by have := (hcop.rd i hi).lt; omega
      have h5c : u5.ownBlock ≠ some cb := fun e => by have := owns_lt hcop.own5 _ e; omega
      have h6c : u6.ownBlock ≠ some cb := fun e => by have := owns_lt hcop.own6 _ e; omega
      have hs3 : w.heap.size ≤ w3.heap.size := b3.size
      clear hd hbel hu3 hcn hcop hc
      go_wp2_with (first | (at_builtin; refine wpList_append_lies (P := Try.prog) _ rfl _ _ 53 rfl w.heap.size 26 iP (.pointer none) 1 8 Try.underlying53 hiP hP0 hP1 hP2 rfl (by omega) u5 k (ptrC C k) rfl (hcop3.own5.alloc _) ⟨w3.heap.size, 0, none⟩ 1 1 [.pointer (some ⟨cb, 0, none⟩)] rfl rfl (World.news_of_block (heap_alloc_new w3 _)) (by intro u hu; simp at hu; subst hu; rfl) (by omega) (by unfold maxLen; omega) (by omega) (by simp; omega) (w3.heap.size + 1) (by simp) ?_; intro g5 cap5 w5 hown5 hgrow5 hat5 hlt5; have hs5 : w.heap.size ≤ w5.heap.size := Nat.le_trans hs3 (Nat.le_trans (by simp) hgrow5.size)) | (at_builtin; refine wpList_append_lies (P := Try.prog) _ rfl _ _ 25 rfl w.heap.size 9 iS (.string ⟨#[]⟩) 1 16 Try.underlying25 hiS hS0 hS1 hS2 rfl (by omega) u6 k (hadC L0 k) rfl ((hcop3.own6' hgrow5).alloc _) ⟨w5.heap.size, 0, none⟩ 1 1 [.string (str (joinTo L0 k))] rfl rfl (World.news_of_block (heap_alloc_new w5 _)) (by intro u hu; simp at hu; subst hu; rfl) (by omega) (by unfold maxLen; omega) (by omega) (by simp; omega) (w5.heap.size + 1) (by simp) ?_; intro g6 cap6 w7 hown6 hgrow6 hat6 hlt6; have b7 : Below w.heap.size w w7 := ((((b3.alloc hs3 _).grown hgrow5 (by simp; omega) (owns_block hcop3.own5)).alloc hs5 _).grown hgrow6 (by simp; omega) (owns_block hcop3.own6)); have hc7 := HL.out w7 b7))
      obtain ⟨hcop7, hkeep⟩ := hcop3.step hrd.lt hrc hcg hcb hcC h5c h6c hown5 hgrow5 hat5 hown6 hgrow6 hat6
      have hd7 := hrd.kept (hkeep g hrd.lt hcop3.g5 hcop3.g6)
      clear hkeep hown5 hgrow5 hat5 hlt5 hown6 hgrow6 hat6 hlt6 hcop3 hrc hrd h5c h6c hcC b3 hs3 hs5
      refine (dig_add g (joinTo L0 k) (L0 k) _ (Or.inl hd7) (by omega)).mono ?_
      rintro e w8 ⟨rfl, hd8, hu8⟩
      rw [← HJ.out] at hd8
      have b8 := upon_below b7 hu8 hs0
      have hcop8 := hcop7.kept (fun b hb hn => hu8.block b hb hn)
      have hc8 := HL.out w8 b8
      clear hd7 hu8 hcop7 b7 hc7
      go_wp2
      go_roundw
      case rel => exact ⟨k + 1, extC C k cb, by omega, by go_num, rfl, HJL1.out, Or.inl hd8, hcop8, b8⟩
      case measure => simp [intOf]; omega
    · have HKN : Hid (k = n0) := by show _ = _; omega
      have HF : Hid (∃ (o5 o6 : Option Addr) (cap5 cap6 : Nat), u5 = .slice o5 k cap5 ∧ u6 = .slice o6 k cap6 ∧ (0 < k → ∃ g5 g6, o5 = some ⟨g5, 0, none⟩ ∧ o6 = some ⟨g6, 0, none⟩)) := by
        obtain ⟨o5, c5, e5, f5⟩ := owns_form hcop.own5
        obtain ⟨o6, c6, e6, f6⟩ := owns_form hcop.own6
        exact ⟨o5, o6, c5, c6, e5, e6, fun h => by obtain ⟨g5, h5⟩ := f5 h; obtain ⟨g6, h6⟩ := f6 h; exact ⟨g5, g6, h5, h6⟩⟩
      obtain ⟨o5, o6, cap5, cap6, rfl, rfl, hform⟩ := HF.out
      have HFO : Hid (0 < k → ∃ g5 g6, o5 = some ⟨g5, 0, none⟩ ∧ o6 = some ⟨g6, 0, none⟩) := hform
      clear hform HF
      go_wp2
      go_loopw [8] (fun i wr => ∃ j : Nat, j ≤ k ∧ i = .int .i64 ((j : Int) - 1) ∧ DigAt wr g (joinTo L0 k) ∧ wr.ownsRow w.heap.size 26 1 (.slice o5 k cap5) k (ptrC C k) ∧ wr.ownsRow w.heap.size 9 1 (.slice o6 k cap6) k (hadC L0 k) ∧ (∀ i, i < j → Ready wr (C i) (joinTo L0 i)) ∧ Below w.heap.size w wr) (fun i _ => (intOf i + 1).toNat)
      case atStart => exact ⟨k, Nat.le_refl _, rfl, hd, hcop.own5, hcop.own6, hcop.rd, hbel⟩
      case round =>
        have HC : Hid (∃ w', Cop w.heap.size g L0 k C (.slice o5 k cap5) (.slice o6 k cap6) w') := ⟨_, hcop⟩
        clear hd hcop hbel
        obtain ⟨j, hj, rfl, hd, h5, h6, hrd, hbel⟩ := hrel
        by_cases hj0 : 0 < j
        · obtain ⟨i, rfl⟩ : ∃ i, j = i + 1 := ⟨j - 1, by omega⟩
          obtain ⟨g5, g6, rfl, rfl⟩ := HFO.out (by omega)
          obtain ⟨wc, hcop⟩ := HC.out
          have n5 : g5 ≠ C i := fun e => hcop.c5 i (by omega) (by simp [Value.ownBlock, e])
          have n6 : g6 ≠ C i := fun e => hcop.c6 i (by omega) (by simp [Value.ownBlock, e])
          have ng : g ≠ C i := Ne.symm (hcop.cg i (by omega))
          have nB : w.heap.size ≤ C i := hcop.cB i (by omega)
          have hinj : ∀ i', i' < i → C i' ≠ C i := fun i' h => hcop.inj i' i h (by omega)
          have hml := HJL.out i (by omega)
          have p5 : wr.cell? ⟨g5, i, none⟩ = some (.pointer (some ⟨C i, 0, none⟩)) := by rw [h5.cellAt i (by omega), ptrC_at C k i (by omega)]
          have p6 : wr.cell? ⟨g6, i, none⟩ = some (.string (str (joinTo L0 i))) := by rw [h6.cellAt i (by omega), hadC_at L0 k i (by omega)]
          have hidx : ((i + 1 : Nat) : Int) - 1 = (i : Int) := by omega
          rw [hidx]
          clear hidx hj0 HC hcop wc
          have i0 : (0 : Int) ≤ (i : Int) := by omega
          have ik : (i : Int) < (k : Int) := by omega
          have hszi : (str (joinTo L0 i)).size = (joinTo L0 i).length := str_size _
          have hcat : str (joinTo L0 i) ++ ⟨#[43]⟩ = str (joinTo L0 i ++ [43]) := str_cat _ [43]
          have hln : ¬ (9223372036854775807 < (joinTo L0 i).length + 1) := by omega
          have HLE : Hid (((joinTo L0 i ++ [43]).length : Int) = ((joinTo L0 i).length : Int) + 1) := by show _ = _; simp
          have hl1 : (joinTo L0 i ++ [43]).length ≤ 2000 := by simp; omega
          have hwr : IntKind.i64.wrap (((joinTo L0 i).length : Int) + 1) = ((joinTo L0 i).length : Int) + 1 := IntWalk.i64_in _ ⟨by omega, by omega⟩
          have hri := hrd i (by omega)
          go_wp2_with fail
          refine (dig_add (C i) (joinTo L0 i) [43] _ (Or.inl hri) (by simp; omega)).mono ?_
          rintro e w4 ⟨rfl, hc4, hu4⟩
          have p5' := cell_upon hu4 p5 n5
          have p6' := cell_upon hu4 p6 n6
          have h5' := owns_kept h5 (w' := w4) (fun b hb => hu4.block b (owns_lt h5 b hb) (fun e => n5 (by simp only [Value.ownBlock, Option.some.injEq] at hb; omega)))
          have h6' := owns_kept h6 (w' := w4) (fun b hb => hu4.block b (owns_lt h6 b hb) (fun e => n6 (by simp only [Value.ownBlock, Option.some.injEq] at hb; omega)))
          have hd4 := hd.upon hu4 ng
          have hrd4 : ∀ i', i' < i → Ready w4 (C i') (joinTo L0 i') := fun i' h => (hrd i' (by omega)).upon hu4 (hinj i' h)
          have b4 := upon_below hbel hu4 nB
          have hc4d : DigAt w4.drew (C i) (joinTo L0 i ++ [43]) := DigAt.kept (Or.inl hc4) rfl
          have r5 : w4.drew.cell? ⟨g5, i, none⟩ = some (.pointer (some ⟨C i, 0, none⟩)) := (World.cell?_drew _ _).trans p5'
          have r6 : w4.drew.cell? ⟨g6, i, none⟩ = some (.string (str (joinTo L0 i))) := (World.cell?_drew _ _).trans p6'
          clear h5 h6 hd hrd hbel hri hu4 p5 p6 hc4
          go_wp2_with fail
          go_region_held3 (fun w' => w'.cell? ⟨g5, i, none⟩ = some (.pointer (some ⟨C i, 0, none⟩)) ∧ w'.cell? ⟨g6, i, none⟩ = some (.string (str (joinTo L0 i)))) ((go_split_ands; (refine ⟨?_, ?_⟩ <;> with_reducible assumption))) (first | (go_at_call 15; refine (dig_sum (C i) (joinTo L0 i ++ [43]) _ hc4d (by omega)).mono ?_; rintro e w5 ⟨rfl, hr5, hu5⟩; have q5 := cell_upon hu5 r5 n5; have q6 := cell_upon hu5 r6 n6) | (go_at_call 12; refine (ref_sum_str (joinTo L0 i ++ [43]) _ (by omega)).mono ?_; rintro e w6 ⟨rfl, hb6⟩; have hr6 := hr5.below hb6; have t5 := cell_below hb6 q5; have t6 := cell_below hb6 q6) | (go_at_call 16; refine (dig_len (C i) (joinTo L0 i ++ [43]) _ (Or.inl hr6)).mono ?_; rintro e w' ⟨rfl, rfl⟩; rw [HLE.out]))
          have hd6 := ((hd4.kept (w' := w4.drew) rfl).upon hu5 ng).below hb6
          have h56 := owns_below (owns_kept h5' (w' := w5) (fun b hb => hu5.block b (owns_lt h5' b hb) (fun e => n5 (by simp only [Value.ownBlock, Option.some.injEq] at hb; omega)))) hb6
          have h66 := owns_below (owns_kept h6' (w' := w5) (fun b hb => hu5.block b (owns_lt h6' b hb) (fun e => n6 (by simp only [Value.ownBlock, Option.some.injEq] at hb; omega)))) hb6
          have hrd6 : ∀ i', i' < i → Ready w6 (C i') (joinTo L0 i') := fun i' h => (((hrd4 i' h).kept (w' := w4.drew) rfl).upon hu5 (hinj i' h)).below hb6
          have b6 := bel_chain (upon_below b4.drew hu5 nB) hb6
          clear h5' h6' hd4 hrd4 b4 hc4d r5 r6 p5' p6' hu5 hr5 q5 q6 hb6 hr6 t5 t6
          go_wp2
          go_roundw
          case rel => exact ⟨i, by omega, rfl, hd6, h56, h66, hrd6, b6⟩
          case measure => simp [intOf]
        · have hj0' : j = 0 := by omega
          subst hj0'
          have hneg : ((0 : Nat) : Int) - 1 = -1 := rfl
          rw [hneg]
          go_wp2_with fail
          refine (dig_sum g (joinTo L0 k) _ hd (by omega)).mono ?_
          rintro e w5 ⟨rfl, hd5, hu5⟩
          have b5 := upon_below hbel hu5 hs0
          go_wp2_with fail
          refine (ref_sum_str (joinTo L0 k) _ (by omega)).mono ?_
          rintro e w6 ⟨rfl, b'⟩
          have b6 := bel_chain b5 b'
          go_wp2
          go_ret
          exact ⟨rfl, b6⟩

set_option maxRecDepth 100000 in
theorem lifted (os : Os) (started : os.Started) (H : Type) (enc : TypeId × Value → H) :
    ReturnsInHanded {} Try.checked os 8 .any (Rows.digestCopiesSpec.pre6 enc Try.prog Try.f8 Rows.digestCopiesRow.domain false) (Rows.digestCopiesSpec.post enc Try.prog Try.f8 false true false false) := by
  refine returnsInHanded_of_change (C := Try.checked) own started (by kernel_rfl) Try.func8
    (ChangeSpec.witness6 (enc := enc) (C := Try.checked) false ⟨#[], #[.slice none 0 0], []⟩ 8 (by kernel_rfl) (by kernel_rfl) (by kernel_rfl) (by kernel_rfl)) ?_
  intro W base args ds gs before hval0 hW hcnd _
  have hval : ∀ (j : Nat) t v, Try.f8.params[j]? = some t → args[j]? = some v → Value.okWide Try.prog W .any base t v := hval0
  have hW' := hW
  obtain ⟨p, q, hA0, hV, rfl, hfz, hnd⟩ := hW
  have hA : DataW.TrodAll enc Try.prog W 0 (fun _ => true) true Try.f8.params.toList args.toList ds p := hA0
  rw [Try.params8] at hA hval
  obtain ⟨v0, vs0, d0, ds0, p0, q0, hargs, rfl, rfl, h0, r0⟩ := trodAll_cons hA
  obtain ⟨rfl, rfl, rfl⟩ := trodAll_nil r0
  obtain rfl : args = #[v0] := by cases args; simp_all
  obtain ⟨rfl, rfl⟩ := trodVars_none hV
  have h0k := h0
  have hlt0 : ∀ x ∈ p0, x.block < W.heap.size := fun x hx => by simpa using hW'.lt x (by simp [hx])
  obtain ⟨o0, n0, c0, L0, rfl, l0, s0⟩ := strs_open (hval 0 25 v0 rfl rfl) h0
  clear hA0 hval0
  simp only [List.append_nil] at hW'
  refine (walk o0 n0 c0 L0 l0 W s0).mono fun e W' ⟨he, hg⟩ => ?_
  subst he
  exact ⟨_, rfl, _, _, _, _, _, _, hW', (trodAll_cons_mk (shut_bool Try.underlying4 _) trodAll_mk0), (trodAll_cons_mk (Below.trod laidOut (by kernel_rfl) (of_decide_eq_true (by kernel_rfl)) h0k hg hlt0) trodAll_mk0), rfl, hg.frame _, fun h => by cases h⟩

theorem over : Rows.digestCopiesRow.holds Try.pinned (OpenSpec.ofChange Rows.digestCopiesSpec) :=
  OpenClaim.holds_of_wide 8 Try.f8 rfl rfl rfl rfl rfl rfl rfl ⟨rfl, rfl, rfl, rfl, rfl⟩ rfl rfl rfl rfl rfl (by kernel_rfl) Try.func8 (by kernel_rfl)
    (of_decide_eq_true (by kernel_rfl)) (by unfold Func.isWrapper; first | (rw [if_pos (by decide +kernel)]; kernel_rfl) | (rw [if_neg (by decide +kernel)]; exact ⟨rfl, rfl⟩))
    (fun os started H enc _ => lifted os started H enc)

theorem proved : Rows.DigestCopiesSaid :=
  over
#print axioms proved
end Go.Proofs.Ytjdhmemnigohbaa.digestCopies
