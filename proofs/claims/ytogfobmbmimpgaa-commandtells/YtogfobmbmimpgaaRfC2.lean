/-
  The contract of the reference's Put.
-/
import Derived.Test.YtogfobmbmimpgaaRfC1
import Derived.Test.YtogfobmbmimpgaaRfP0
import Derived.Test.YtogfobmbmimpgaaOct3
namespace Go.Proofs.Ytogfobmbmimpgaa
open Go.RowKit
set_option linter.unusedVariables false
set_option maxRecDepth 100000
set_option linter.unusedSimpArgs false

theorem results2_of {fn : Func} {t u : Tmp} (h : fn.results = #[.tmp t, .tmp u]) {a : Act} {x y : Value} (hx : a.eval (.tmp t) = x) (hy : a.eval (.tmp u) = y) (P : Program) (w : World) : (results fn a.tmps).run P w = .ok (.tuple #[x, y]) w := by
  rw [results_tmp2 h]
  subst hx hy
  simp [Act.eval]
theorem Cmd.put_is2 {c : Cmd} (h : c.Right) : str [byteOf c.op 0] ++ putBigS (c.num + 1000000000000) 8 ++ putBigS c.ver 8 ++ str [byteOf (c.key.size : Int) 0] ++ c.key ++ c.value = c.put := by
  rw [Cmd.put_yes h]
  unfold putBigS Cmd.bytes
  apply ByteArray.ext
  simp [str]

set_option maxHeartbeats 1000000 in
theorem ref_put (c : Cmd) (w : World) (hk : c.key.size ≤ maxLen) : Calls Try.prog 11 #[c.v] w fun e w' => e = .returned (.tuple #[.string c.put, .bool c.right]) ∧ Below w.heap.size w w' := by
  have PR := fun w => ref_command c w hk
  by_cases hr : c.Right
  · have hrt : c.right = true := decide_eq_true hr
    rw [hrt] at PR ⊢
    have HS : Hid _ := Cmd.put_is2 hr
    obtain ⟨⟨h1, h2⟩, h3, h4, h5, ⟨h6, h6'⟩, h7, h7'⟩ := hr
    have P2 : Hid _ := fun w => ref_putBig (c.num + 1000000000000) 8 w (by omega) (by omega)
    have P3 : Hid _ := fun w => ref_putBig c.ver 8 w (by omega) (by omega)
    have z1 := putBigS8_size (c.num + 1000000000000)
    have z2 := putBigS8_size c.ver
    have hrow := fun w => CmdIs.new w c
    have u1 : IntKind.i64.wrap (c.num + 1000000000000) = c.num + 1000000000000 := by rw [IntKind.wrap_i64]; omega
    have u2 : IntKind.u64.wrap (c.num + 1000000000000) = c.num + 1000000000000 := by rw [IntKind.wrap_u64]; omega
    have u3 : IntKind.u64.wrap c.ver = c.ver := by rw [IntKind.wrap_u64]; omega
    have HU : Hid _ := And.intro u1 (And.intro u2 u3)
    obtain ⟨op, key, value, num, ver⟩ := c
    simp only [Cmd.v] at *
    generalize putBigS (num + 1000000000000) 8 = H2 at *
    generalize putBigS ver 8 = H3 at *
    generalize (Cmd.put ⟨op, key, value, num, ver⟩) = S at *
    clear h1 h2 h3 h6 h6' h7 h7' hk hrt u1 u2 u3
    go_enter Try.func11, Try.ntmps11
    go_wp2_with fail
    with_reducible refine (PR _).mono ?_
    rintro e w1 ⟨rfl, b1⟩
    have r1 := (hrow w).below b1
    replace b1 := bel_new b1
    go_wp2_with fail
    refine rfput_region w.heap.size op num ver _ key value H2 H3 HU.out.1 HU.out.2.1 HU.out.2.2 h4 h5 (by omega) (by omega) P2.out P3.out (by kernel_rfl) (by kernel_rfl) (by kernel_rfl) rfl rfl r1 ?_
    intro a w5 b5 hs hd e2 e3
    rename_i K hK
    refine hK _ _ ?_
    go_wp2
    show bodyPost Try.prog Try.f11 _ Exit.ret a w5
    refine bodyPost_ret (results2_of (fn := Try.f11) rfl e2 e3 _ _) hd ?_
    exact ⟨ret_sb10 HS.out rfl, bel_chain8 b1 b5⟩
  · rw [Cmd.put_no hr]
    have hrt : c.right = false := decide_eq_false hr
    rw [hrt] at PR ⊢
    obtain ⟨op, key, value, num, ver⟩ := c
    simp only [Cmd.v] at *
    clear hr hrt hk
    go_enter Try.func11, Try.ntmps11
    go_wp2_with fail
    with_reducible refine (PR _).mono ?_
    rintro e w1 ⟨rfl, b1⟩
    go_wp2
    go_ret2
    exact ⟨rfl, bel_new b1⟩

end Go.Proofs.Ytogfobmbmimpgaa
