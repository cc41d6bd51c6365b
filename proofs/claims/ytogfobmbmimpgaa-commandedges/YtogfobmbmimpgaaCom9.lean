/-
  The contract of package command's Get.
-/
import Derived.Test.YtogfobmbmimpgaaCom8
namespace Go.Proofs.Ytogfobmbmimpgaa
open Go.RowKit
set_option linter.unusedVariables false
set_option maxRecDepth 100000
set_option linter.unusedSimpArgs false

theorem get_world (w : World) (b : ByteArray) : CmdIs (((w.alloc (.cells #[.int .i64 0, .string ⟨#[]⟩, .string ⟨#[]⟩, .int .i64 0, .int .i64 0] 23)).alloc (.cells #[.string b, .bool false] 48)).alloc (.cells #[.int .i64 0, .string ⟨#[]⟩, .string ⟨#[]⟩, .int .i64 0, .int .i64 0] 23)) w.heap.size Cmd.zero ∧ PartsIs (((w.alloc (.cells #[.int .i64 0, .string ⟨#[]⟩, .string ⟨#[]⟩, .int .i64 0, .int .i64 0] 23)).alloc (.cells #[.string b, .bool false] 48)).alloc (.cells #[.int .i64 0, .string ⟨#[]⟩, .string ⟨#[]⟩, .int .i64 0, .int .i64 0] 23)) (w.heap.size + 1) b false ∧ CmdIs (((w.alloc (.cells #[.int .i64 0, .string ⟨#[]⟩, .string ⟨#[]⟩, .int .i64 0, .int .i64 0] 23)).alloc (.cells #[.string b, .bool false] 48)).alloc (.cells #[.int .i64 0, .string ⟨#[]⟩, .string ⟨#[]⟩, .int .i64 0, .int .i64 0] 23)) (w.heap.size + 1 + 1) Cmd.zero ∧ Below w.heap.size w (((w.alloc (.cells #[.int .i64 0, .string ⟨#[]⟩, .string ⟨#[]⟩, .int .i64 0, .int .i64 0] 23)).alloc (.cells #[.string b, .bool false] 48)).alloc (.cells #[.int .i64 0, .string ⟨#[]⟩, .string ⟨#[]⟩, .int .i64 0, .int .i64 0] 23)) ∧ (((w.alloc (.cells #[.int .i64 0, .string ⟨#[]⟩, .string ⟨#[]⟩, .int .i64 0, .int .i64 0] 23)).alloc (.cells #[.string b, .bool false] 48)).alloc (.cells #[.int .i64 0, .string ⟨#[]⟩, .string ⟨#[]⟩, .int .i64 0, .int .i64 0] 23)).heap.size = w.heap.size + 3 := by
  have a0 := CmdIs.new w Cmd.zero
  have s0 : (w.alloc (.cells #[.int .i64 0, .string ⟨#[]⟩, .string ⟨#[]⟩, .int .i64 0, .int .i64 0] 23)).heap.size = w.heap.size + 1 := by simp
  have a1 : PartsIs ((w.alloc (.cells #[.int .i64 0, .string ⟨#[]⟩, .string ⟨#[]⟩, .int .i64 0, .int .i64 0] 23)).alloc (.cells #[.string b, .bool false] 48)) ((w.alloc (.cells #[.int .i64 0, .string ⟨#[]⟩, .string ⟨#[]⟩, .int .i64 0, .int .i64 0] 23)).heap.size) b false := RowIs.new _ _ _
  have s1 : ((w.alloc (.cells #[.int .i64 0, .string ⟨#[]⟩, .string ⟨#[]⟩, .int .i64 0, .int .i64 0] 23)).alloc (.cells #[.string b, .bool false] 48)).heap.size = w.heap.size + 1 + 1 := by simp
  have a2 := CmdIs.new ((w.alloc (.cells #[.int .i64 0, .string ⟨#[]⟩, .string ⟨#[]⟩, .int .i64 0, .int .i64 0] 23)).alloc (.cells #[.string b, .bool false] 48)) Cmd.zero
  rw [s0] at a1
  rw [s1] at a2
  exact ⟨(a0.alloc _).alloc _, RowIs.alloc a1 _, a2, (((Below.refl _ _).alloc (Nat.le_refl _) _).alloc (by simp) _).alloc (by simp; omega) _, by simp⟩
theorem results_row_tmp10 {P : Program} {fn : Func} {p q : Tmp} {ty : TypeId} (h : fn.results = #[.cell p ty, .tmp q]) (tmps : Array Value) (w : World) (g : Nat) (cs : List Value) (d : TypeDesc)
    (hp : tmps[p]?.getD undef = .pointer (some ⟨g, 0, none⟩)) (u : Value) (hq : tmps[q]?.getD undef = u) (hc : w.rangeAt g 0 cs) (hu : P.underlying ty = some d) (hd : d.isRow = true) (hi : (P.info? ty).map (·.size) = some cs.length) :
    (results fn tmps).run P w = .ok (.tuple #[.agg cs.toArray, u]) w := by
  simp [results, h, hp, hq, asAddr, run_loadVar_mid w g 0 ty cs d hc hu hd hi]
theorem hide {p : Prop} (h : p) : Hid p := h
theorem Upon.beyond {p B : Nat} {w0 w w' : World} (h : Below B w0 w) (u : Upon p w w') (hp : B ≤ p) (hB : B ≤ w.heap.size) : Below B w0 w' := h.trans (u.below hp hB)

set_option maxHeartbeats 1000000 in
theorem command_get (b : ByteArray) (w : World) (hb : b.size ≤ 1000000) : Calls Try.prog 12 #[.string b] w fun e w' => e = .returned (.tuple #[(getC b).v, .bool (getOk b)]) ∧ Below w.heap.size w w' := by
  have hsz := gotC_sizes b
  have hle1 := tkR_le b 1
  have hle2 := tkR_le (tkR b 1) 8
  have hle3 := tkR_le (tkR (tkR b 1) 8) 8
  have Q1 := fun w h => command_partsNumber (w.heap.size + 1) b false 1 w h hb (by decide)
  have Q1 := fun (p : Nat) (w : World) (h : PartsIs w p b false) => command_partsNumber p b false 1 w h hb (by decide)
  have Q2 := fun (p : Nat) (w : World) (h : PartsIs w p (tkR b 1) (nmB b false 1)) => command_partsNumbers p (tkR b 1) (nmB b false 1) w h (by omega)
  have Q3 := fun (p : Nat) (w : World) (h : PartsIs w p (tkR (tkR (tkR b 1) 8) 8) (nmB (tkR (tkR b 1) 8) (nmB (tkR b 1) (nmB b false 1) 8) 8)) => command_partsText p (tkR (tkR (tkR b 1) 8) 8) (nmB (tkR (tkR b 1) 8) (nmB (tkR b 1) (nmB b false 1) 8) 8) 1 w h (by omega) (by decide)
  rw [show ((1 : Nat) : Int) = 1 from rfl] at Q1 Q3
  have HG : gotC b = ⟨nmN b 1, nmN (tkR b 1) 8, nmN (tkR (tkR b 1) 8) 8, tkV (tkR (tkR (tkR (tkR b 1) 8) 8) 1) (nmN (tkR (tkR (tkR b 1) 8) 8) 1),
    tkR (tkR (tkR (tkR (tkR b 1) 8) 8) 1) (nmN (tkR (tkR (tkR b 1) 8) 8) 1),
    tkB (tkR (tkR (tkR (tkR b 1) 8) 8) 1) (nmB (tkR (tkR (tkR b 1) 8) 8) (nmB (tkR (tkR b 1) 8) (nmB (tkR b 1) (nmB b false 1) 8) 8) 1) (nmN (tkR (tkR (tkR b 1) 8) 8) 1)⟩ := rfl
  clear hle1 hle2 hle3
  generalize tkB (tkR (tkR (tkR (tkR b 1) 8) 8) 1) (nmB (tkR (tkR (tkR b 1) 8) 8) (nmB (tkR (tkR b 1) 8) (nmB (tkR b 1) (nmB b false 1) 8) 8) 1) (nmN (tkR (tkR (tkR b 1) 8) 8) 1) = BAD at *
  generalize tkR (tkR (tkR (tkR (tkR b 1) 8) 8) 1) (nmN (tkR (tkR (tkR b 1) 8) 8) 1) = REST at *
  generalize tkV (tkR (tkR (tkR (tkR b 1) 8) 8) 1) (nmN (tkR (tkR (tkR b 1) 8) 8) 1) = KEY at *
  generalize nmB (tkR (tkR b 1) 8) (nmB (tkR b 1) (nmB b false 1) 8) 8 = B3 at *
  generalize tkR (tkR (tkR b 1) 8) 8 = S3 at *
  generalize nmN (tkR (tkR b 1) 8) 8 = VER at *
  generalize nmN (tkR b 1) 8 = NUM at *
  generalize nmB b false 1 = B1 at *
  generalize tkR b 1 = S1 at *
  generalize nmN b 1 = OP at *
  have P1 : Hid _ := Q1
  have P2 : Hid _ := Q2
  have P3 : Hid _ := Q3
  rw [HG] at hsz
  have z1 : KEY.size ≤ b.size := hsz.1
  have z2 : REST.size ≤ b.size := hsz.2.1
  have z3 : OP ≤ 2000000000000 := hsz.2.2.1
  have z4 : NUM ≤ 2000000000000 := hsz.2.2.2.1
  have z5 : VER ≤ 2000000000000 := hsz.2.2.2.2
  clear hsz
  have PR : Hid _ := fun w => command_right ⟨(OP : Int), KEY, REST, (NUM : Int) - 1000000000000, (VER : Int)⟩ w (by show KEY.size ≤ maxLen; unfold maxLen; omega)
  have PC : Hid _ := fun w => strings_clone10 REST w (by omega)
  have HW : Hid _ := get_world w b
  clear Q1 Q2 Q3
  have HF : Hid ((isCmd b ∧ BAD = false ∧ (⟨(OP : Int), KEY, REST, (NUM : Int) - 1000000000000, (VER : Int)⟩ : Cmd).right = true ∧ (⟨(OP : Int), KEY, REST, (NUM : Int) - 1000000000000, (VER : Int)⟩ : Cmd) = getC b ∧ getOk b = true) ∨ ((BAD = true ∨ BAD = false ∧ (⟨(OP : Int), KEY, REST, (NUM : Int) - 1000000000000, (VER : Int)⟩ : Cmd).right = false) ∧ getC b = Cmd.zero ∧ getOk b = false)) := by
    by_cases h : isCmd b
    · have := gotC_yes b h
      rw [HG] at this
      exact Or.inl ⟨h, this⟩
    · have := gotC_no b h
      rw [HG] at this
      exact Or.inr this
  clear HG z1 z2
  go_enter Try.func12, Try.ntmps12
  go_wp2_with fail
  obtain ⟨R0, RP, RC, B, hz⟩ := HW.out
  clear HW
  generalize ((w.alloc (.cells #[.int .i64 0, .string ⟨#[]⟩, .string ⟨#[]⟩, .int .i64 0, .int .i64 0] 23)).alloc (.cells #[.string b, .bool false] 48)).alloc (.cells #[.int .i64 0, .string ⟨#[]⟩, .string ⟨#[]⟩, .int .i64 0, .int .i64 0] 23) = w0 at *
  have g0 := R0.lt
  have gc := RC.lt
  have gp : w.heap.size + 1 < w0.heap.size := by omega
  with_reducible refine (P1.out _ _ RP).mono ?_
  rintro e w1 ⟨rfl, RP1, u1⟩
  replace RC := u1.row RC (by omega)
  replace R0 := u1.row R0 (by omega)
  replace B := Upon.beyond B u1 (by omega) (by omega)
  have hz1 := u1.size
  have k0 : w1.cell? ⟨w.heap.size + 1 + 1, 0, none⟩ = some (.int .i64 0) := RC.cellAt rfl
  have f0 : w1.frozen? ⟨w.heap.size + 1 + 1, 0, none⟩ = false := RC.frozen 0
  clear RP
  go_wp2_with fail
  have RP2 : PartsIs (w1.setCell ⟨w.heap.size + 1 + 1, 0, none⟩ (.int .i64 (OP : Int))) _ _ _ := RowIs.setOther RP1 (a := ⟨w.heap.size + 1 + 1, 0, none⟩) (by simp) _
  replace RC := RC.set 0 (.int .i64 (OP : Int))
  replace R0 := R0.setOther (a := ⟨w.heap.size + 1 + 1, 0, none⟩) (by simp; omega) (.int .i64 (OP : Int))
  replace B : Below w.heap.size w (w1.setCell ⟨w.heap.size + 1 + 1, 0, none⟩ (.int .i64 (OP : Int))) := B.setCell (show w.heap.size ≤ w.heap.size + 1 + 1 by omega) _
  have hz2 : (w1.setCell ⟨w.heap.size + 1 + 1, 0, none⟩ (.int .i64 (OP : Int))).heap.size = w1.heap.size := by simp [World.setCell]
  clear k0 f0 RP1
  generalize w1.setCell ⟨w.heap.size + 1 + 1, 0, none⟩ (.int .i64 (OP : Int)) = w2 at *
  with_reducible refine (P2.out _ _ RP2).mono ?_
  rintro e w3 ⟨rfl, RP3, u3⟩
  replace RC := u3.row RC (by omega)
  replace R0 := u3.row R0 (by omega)
  replace B := Upon.beyond B u3 (by omega) (by omega)
  have hz3 := u3.size
  have k3 : w3.cell? ⟨w.heap.size + 1 + 1, 3, none⟩ = some (.int .i64 0) := RC.cellAt rfl
  have k4 : w3.cell? ⟨w.heap.size + 1 + 1, 4, none⟩ = some (.int .i64 0) := RC.cellAt rfl
  have f3 : w3.frozen? ⟨w.heap.size + 1 + 1, 3, none⟩ = false := RC.frozen 3
  have f4 : w3.frozen? ⟨w.heap.size + 1 + 1, 4, none⟩ = false := RC.frozen 4
  clear RP2
  go_wp2_with fail
  have RP4 : PartsIs ((w3.setCell ⟨w.heap.size + 1 + 1, 3, none⟩ (.int .i64 ((NUM : Int) - 1000000000000))).setCell ⟨w.heap.size + 1 + 1, 4, none⟩ (.int .i64 (VER : Int))) _ _ _ := RowIs.setOther (RowIs.setOther RP3 (a := ⟨w.heap.size + 1 + 1, 3, none⟩) (by simp) _) (a := ⟨w.heap.size + 1 + 1, 4, none⟩) (by simp) _
  replace RC := (RC.set 3 (.int .i64 ((NUM : Int) - 1000000000000))).set 4 (.int .i64 (VER : Int))
  replace R0 := (R0.setOther (a := ⟨w.heap.size + 1 + 1, 3, none⟩) (by simp; omega) (.int .i64 ((NUM : Int) - 1000000000000))).setOther (a := ⟨w.heap.size + 1 + 1, 4, none⟩) (by simp; omega) (.int .i64 (VER : Int))
  replace B : Below w.heap.size w ((w3.setCell ⟨w.heap.size + 1 + 1, 3, none⟩ (.int .i64 ((NUM : Int) - 1000000000000))).setCell ⟨w.heap.size + 1 + 1, 4, none⟩ (.int .i64 (VER : Int))) := (B.setCell (show w.heap.size ≤ w.heap.size + 1 + 1 by omega) _).setCell (show w.heap.size ≤ w.heap.size + 1 + 1 by omega) _
  have hz4 : ((w3.setCell ⟨w.heap.size + 1 + 1, 3, none⟩ (.int .i64 ((NUM : Int) - 1000000000000))).setCell ⟨w.heap.size + 1 + 1, 4, none⟩ (.int .i64 (VER : Int))).heap.size = w3.heap.size := by simp [World.setCell]
  clear k3 f3 k4 f4 RP3
  generalize (w3.setCell ⟨w.heap.size + 1 + 1, 3, none⟩ (.int .i64 ((NUM : Int) - 1000000000000))).setCell ⟨w.heap.size + 1 + 1, 4, none⟩ (.int .i64 (VER : Int)) = w4 at *
  with_reducible refine (P3.out _ _ RP4).mono ?_
  rintro e w5 ⟨rfl, RP5, u5⟩
  replace RC := u5.row RC (by omega)
  replace R0 := u5.row R0 (by omega)
  replace B := Upon.beyond B u5 (by omega) (by omega)
  have hz5 := u5.size
  have c0 : w5.cell? ⟨w.heap.size + 1, 0, none⟩ = some (.string REST) := RowIs.cellAt RP5 rfl
  have c1 : w5.cell? ⟨w.heap.size + 1, 1, none⟩ = some (.bool BAD) := RowIs.cellAt RP5 rfl
  have k0 : w5.cell? ⟨w.heap.size + 1 + 1, 0, none⟩ = some (.int .i64 (OP : Int)) := RC.cellAt rfl
  have k1 : w5.cell? ⟨w.heap.size + 1 + 1, 1, none⟩ = some (.string ⟨#[]⟩) := RC.cellAt rfl
  have k2 : w5.cell? ⟨w.heap.size + 1 + 1, 2, none⟩ = some (.string ⟨#[]⟩) := RC.cellAt rfl
  have k3 : w5.cell? ⟨w.heap.size + 1 + 1, 3, none⟩ = some (.int .i64 ((NUM : Int) - 1000000000000)) := RC.cellAt rfl
  have k4 : w5.cell? ⟨w.heap.size + 1 + 1, 4, none⟩ = some (.int .i64 (VER : Int)) := RC.cellAt rfl
  have f1 : w5.frozen? ⟨w.heap.size + 1 + 1, 1, none⟩ = false := RC.frozen 1
  have f2 : w5.frozen? ⟨w.heap.size + 1 + 1, 2, none⟩ = false := RC.frozen 2
  have RCH := hide RC
  have R0H := hide R0
  have BH := hide B
  clear RP4 RP5 RC R0 B
  have q0 : ∀ j : Nat, w5.cell? ⟨w.heap.size, j, none⟩ = (([.int .i64 0, .string ⟨#[]⟩, .string ⟨#[]⟩, .int .i64 0, .int .i64 0] : List Value))[j]? := fun j => RowIs.cell R0H.out j
  have z0 : ∀ j : Nat, w5.frozen? ⟨w.heap.size, j, none⟩ = false := fun j => RowIs.frozen R0H.out j
  rcases HF.out with ⟨hc, rfl, hr, hcmd, hok⟩ | ⟨hbad, hcmd, hok⟩
  · have HE : Hid (Ending.returned (.tuple #[.agg #[.int .i64 (OP : Int), .string KEY, .string REST, .int .i64 ((NUM : Int) - 1000000000000), .int .i64 (VER : Int)], .bool true]) = Ending.returned (.tuple #[(getC b).v, .bool (getOk b)])) := by
      show Ending.returned (.tuple #[Cmd.v ⟨(OP : Int), KEY, REST, (NUM : Int) - 1000000000000, (VER : Int)⟩, .bool true]) = _
      rw [hcmd, hok]
    have PR2 : Hid (∀ w, Calls Try.prog 14 #[.agg #[.int .i64 (OP : Int), .string KEY, .string REST, .int .i64 ((NUM : Int) - 1000000000000), .int .i64 (VER : Int)]] w fun e w' => e = .returned (.bool true) ∧ Below w.heap.size w w') := by
      have := PR.out
      rw [hr] at this
      exact this
    clear HF hcmd hr hok PR
    go_wp2_with fail
    with_reducible refine (PR2.out _).mono ?_
    rintro e w6 ⟨rfl, b6⟩
    have RC := (RowIs.set (RowIs.set RCH.out 1 (.string KEY)) 2 (.string REST)).below b6 (RowIs.lt ((RCH.out.set 1 (.string KEY)).set 2 (.string REST)))
    have R05 := (RowIs.setOther R0H.out (a := ⟨w.heap.size + 1 + 1, 1, none⟩) (by simp; omega) (.string KEY)).setOther (a := ⟨w.heap.size + 1 + 1, 2, none⟩) (by simp; omega) (.string REST)
    have R0 := R05.below b6 (RowIs.lt R05)
    have B5 : Below w.heap.size w ((w5.setCell ⟨w.heap.size + 1 + 1, 1, none⟩ (.string KEY)).setCell ⟨w.heap.size + 1 + 1, 2, none⟩ (.string REST)) := (BH.out.setCell (show w.heap.size ≤ w.heap.size + 1 + 1 by omega) _).setCell (show w.heap.size ≤ w.heap.size + 1 + 1 by omega) _
    have B := bel_chain8 B5 b6
    clear R05 B5 b6 k0 k1 k2 k3 k4 c0 c1 f1 f2 q0 z0
    have k2 : w6.cell? ⟨w.heap.size + 1 + 1, 2, none⟩ = some (.string REST) := RC.cellAt rfl
    go_wp2_with fail
    with_reducible refine (PC.out _).mono ?_
    rintro e w7 ⟨rfl, b7⟩
    replace RC := RC.below b7 (RowIs.lt RC)
    replace R0 := R0.below b7 (RowIs.lt R0)
    replace B := bel_chain8 B b7
    clear b7 k2
    have k0 : w7.cell? ⟨w.heap.size + 1 + 1, 0, none⟩ = some (.int .i64 (OP : Int)) := RC.cellAt rfl
    have k1 : w7.cell? ⟨w.heap.size + 1 + 1, 1, none⟩ = some (.string KEY) := RC.cellAt rfl
    have k2 : w7.cell? ⟨w.heap.size + 1 + 1, 2, none⟩ = some (.string REST) := RC.cellAt rfl
    have k3 : w7.cell? ⟨w.heap.size + 1 + 1, 3, none⟩ = some (.int .i64 ((NUM : Int) - 1000000000000)) := RC.cellAt rfl
    have k4 : w7.cell? ⟨w.heap.size + 1 + 1, 4, none⟩ = some (.int .i64 (VER : Int)) := RC.cellAt rfl
    have f2 : w7.frozen? ⟨w.heap.size + 1 + 1, 2, none⟩ = false := RC.frozen 2
    have r0 : w7.cell? ⟨w.heap.size, 0, none⟩ = some (.int .i64 0) := R0.cellAt rfl
    have r1 : w7.cell? ⟨w.heap.size, 1, none⟩ = some (.string ⟨#[]⟩) := R0.cellAt rfl
    have r2 : w7.cell? ⟨w.heap.size, 2, none⟩ = some (.string ⟨#[]⟩) := R0.cellAt rfl
    have r3 : w7.cell? ⟨w.heap.size, 3, none⟩ = some (.int .i64 0) := R0.cellAt rfl
    have r4 : w7.cell? ⟨w.heap.size, 4, none⟩ = some (.int .i64 0) := R0.cellAt rfl
    have t0 : w7.frozen? ⟨w.heap.size, 0, none⟩ = false := R0.frozen 0
    have t1 : w7.frozen? ⟨w.heap.size, 1, none⟩ = false := R0.frozen 1
    have t2 : w7.frozen? ⟨w.heap.size, 2, none⟩ = false := R0.frozen 2
    have t3 : w7.frozen? ⟨w.heap.size, 3, none⟩ = false := R0.frozen 3
    have t4 : w7.frozen? ⟨w.heap.size, 4, none⟩ = false := R0.frozen 4
    have RCH2 := hide RC
    have R0H2 := hide R0
    have BH2 := hide B
    clear RC R0 B RCH R0H BH
    go_wp2
    have RF : RowIs ((((((w7.setCell ⟨w.heap.size + 1 + 1, 2, none⟩ (.string REST)).setCell ⟨w.heap.size, 0, none⟩ (.int .i64 (OP : Int))).setCell ⟨w.heap.size, 1, none⟩ (.string KEY)).setCell ⟨w.heap.size, 2, none⟩ (.string REST)).setCell ⟨w.heap.size, 3, none⟩ (.int .i64 ((NUM : Int) - 1000000000000))).setCell ⟨w.heap.size, 4, none⟩ (.int .i64 (VER : Int))) w.heap.size 23 [.int .i64 (OP : Int), .string KEY, .string REST, .int .i64 ((NUM : Int) - 1000000000000), .int .i64 (VER : Int)] := (((((R0H2.out.setOther (a := ⟨w.heap.size + 1 + 1, 2, none⟩) (by simp; omega) (.string REST)).set 0 _).set 1 _).set 2 _).set 3 _).set 4 _
    refine bodyPost_ret (v := .tuple #[.agg ([.int .i64 (OP : Int), .string KEY, .string REST, .int .i64 ((NUM : Int) - 1000000000000), .int .i64 (VER : Int)] : List Value).toArray, .bool true]) (results_row_tmp10 rfl _ _ w.heap.size [.int .i64 (OP : Int), .string KEY, .string REST, .int .i64 ((NUM : Int) - 1000000000000), .int .i64 (VER : Int)] _ (by simp) (.bool true) (by simp) (RF.range (by simp)) Try.underlying23 rfl (by kernel_rfl)) rfl ⟨HE.out, (((((BH2.out.setCell (show w.heap.size ≤ w.heap.size + 1 + 1 by omega) _).setCell (Nat.le_refl _) _).setCell (Nat.le_refl _) _).setCell (Nat.le_refl _) _).setCell (Nat.le_refl _) _).setCell (Nat.le_refl _) _⟩
  · have HE : Hid (Ending.returned (.tuple #[.agg #[.int .i64 0, .string ⟨#[]⟩, .string ⟨#[]⟩, .int .i64 0, .int .i64 0], .bool false]) = Ending.returned (.tuple #[(getC b).v, .bool (getOk b)])) := by
      show Ending.returned (.tuple #[Cmd.v Cmd.zero, .bool false]) = _
      rw [hcmd, hok]
    clear hcmd hok
    rcases hbad with rfl | ⟨rfl, hr⟩
    · clear HF PR
      have R0 := R0H.out
      have r0 : w5.cell? ⟨w.heap.size, 0, none⟩ = some (.int .i64 0) := R0.cellAt rfl
      have r1 : w5.cell? ⟨w.heap.size, 1, none⟩ = some (.string ⟨#[]⟩) := R0.cellAt rfl
      have r2 : w5.cell? ⟨w.heap.size, 2, none⟩ = some (.string ⟨#[]⟩) := R0.cellAt rfl
      have r3 : w5.cell? ⟨w.heap.size, 3, none⟩ = some (.int .i64 0) := R0.cellAt rfl
      have r4 : w5.cell? ⟨w.heap.size, 4, none⟩ = some (.int .i64 0) := R0.cellAt rfl
      have t0 : w5.frozen? ⟨w.heap.size, 0, none⟩ = false := R0.frozen 0
      have t1 : w5.frozen? ⟨w.heap.size, 1, none⟩ = false := R0.frozen 1
      have t2 : w5.frozen? ⟨w.heap.size, 2, none⟩ = false := R0.frozen 2
      have t3 : w5.frozen? ⟨w.heap.size, 3, none⟩ = false := R0.frozen 3
      have t4 : w5.frozen? ⟨w.heap.size, 4, none⟩ = false := R0.frozen 4
      clear R0
      go_wp2
      have RF : RowIs (((((((w5.setCell ⟨w.heap.size + 1 + 1, 1, none⟩ (.string KEY)).setCell ⟨w.heap.size + 1 + 1, 2, none⟩ (.string REST)).setCell ⟨w.heap.size, 0, none⟩ (.int .i64 0)).setCell ⟨w.heap.size, 1, none⟩ (.string ⟨#[]⟩)).setCell ⟨w.heap.size, 2, none⟩ (.string ⟨#[]⟩)).setCell ⟨w.heap.size, 3, none⟩ (.int .i64 0)).setCell ⟨w.heap.size, 4, none⟩ (.int .i64 0)) w.heap.size 23 [.int .i64 0, .string ⟨#[]⟩, .string ⟨#[]⟩, .int .i64 0, .int .i64 0] := ((((((RowIs.setOther R0H.out (a := ⟨w.heap.size + 1 + 1, 1, none⟩) (by simp; omega) (.string KEY)).setOther (a := ⟨w.heap.size + 1 + 1, 2, none⟩) (by simp; omega) (.string REST)).set 0 _).set 1 _).set 2 _).set 3 _).set 4 _
      refine bodyPost_ret (v := .tuple #[.agg ([.int .i64 0, .string ⟨#[]⟩, .string ⟨#[]⟩, .int .i64 0, .int .i64 0] : List Value).toArray, .bool false]) (results_row_tmp10 rfl _ _ w.heap.size [.int .i64 0, .string ⟨#[]⟩, .string ⟨#[]⟩, .int .i64 0, .int .i64 0] _ (by simp) (.bool false) (by simp) (RF.range (by simp)) Try.underlying23 rfl (by kernel_rfl)) rfl ⟨HE.out, ((((((Below.setCell (Below.setCell BH.out (show w.heap.size ≤ w.heap.size + 1 + 1 by omega) _) (show w.heap.size ≤ w.heap.size + 1 + 1 by omega) _)).setCell (Nat.le_refl _) _).setCell (Nat.le_refl _) _).setCell (Nat.le_refl _) _).setCell (Nat.le_refl _) _).setCell (Nat.le_refl _) _⟩
    · have PR2 : Hid (∀ w, Calls Try.prog 14 #[.agg #[.int .i64 (OP : Int), .string KEY, .string REST, .int .i64 ((NUM : Int) - 1000000000000), .int .i64 (VER : Int)]] w fun e w' => e = .returned (.bool false) ∧ Below w.heap.size w w') := by
        have := PR.out
        rw [hr] at this
        exact this
      clear HF hr PR
      go_wp2_with fail
      with_reducible refine (PR2.out _).mono ?_
      rintro e w6 ⟨rfl, b6⟩
      have R05 := ((RowIs.setOther R0H.out (a := ⟨w.heap.size + 1 + 1, 1, none⟩) (by simp; omega) (.string KEY)).setOther (a := ⟨w.heap.size + 1 + 1, 2, none⟩) (by simp; omega) (.string REST))
      have R0 := R05.below b6 (RowIs.lt R05)
      have B := bel_chain8 (show Below w.heap.size w ((w5.setCell ⟨w.heap.size + 1 + 1, 1, none⟩ (.string KEY)).setCell ⟨w.heap.size + 1 + 1, 2, none⟩ (.string REST)) from (Below.setCell (Below.setCell BH.out (show w.heap.size ≤ w.heap.size + 1 + 1 by omega) _) (show w.heap.size ≤ w.heap.size + 1 + 1 by omega) _)) b6
      clear R05 b6 k0 k1 k2 k3 k4 c0 c1 f1 f2 q0 z0
      have r0 : w6.cell? ⟨w.heap.size, 0, none⟩ = some (.int .i64 0) := R0.cellAt rfl
      have r1 : w6.cell? ⟨w.heap.size, 1, none⟩ = some (.string ⟨#[]⟩) := R0.cellAt rfl
      have r2 : w6.cell? ⟨w.heap.size, 2, none⟩ = some (.string ⟨#[]⟩) := R0.cellAt rfl
      have r3 : w6.cell? ⟨w.heap.size, 3, none⟩ = some (.int .i64 0) := R0.cellAt rfl
      have r4 : w6.cell? ⟨w.heap.size, 4, none⟩ = some (.int .i64 0) := R0.cellAt rfl
      have t0 : w6.frozen? ⟨w.heap.size, 0, none⟩ = false := R0.frozen 0
      have t1 : w6.frozen? ⟨w.heap.size, 1, none⟩ = false := R0.frozen 1
      have t2 : w6.frozen? ⟨w.heap.size, 2, none⟩ = false := R0.frozen 2
      have t3 : w6.frozen? ⟨w.heap.size, 3, none⟩ = false := R0.frozen 3
      have t4 : w6.frozen? ⟨w.heap.size, 4, none⟩ = false := R0.frozen 4
      have R0H2 := hide R0
      have BH2 := hide B
      clear R0 B RCH R0H BH
      go_wp2
      have RF : RowIs ((((((w6).setCell ⟨w.heap.size, 0, none⟩ (.int .i64 0)).setCell ⟨w.heap.size, 1, none⟩ (.string ⟨#[]⟩)).setCell ⟨w.heap.size, 2, none⟩ (.string ⟨#[]⟩)).setCell ⟨w.heap.size, 3, none⟩ (.int .i64 0)).setCell ⟨w.heap.size, 4, none⟩ (.int .i64 0)) w.heap.size 23 [.int .i64 0, .string ⟨#[]⟩, .string ⟨#[]⟩, .int .i64 0, .int .i64 0] := ((((R0H2.out.set 0 _).set 1 _).set 2 _).set 3 _).set 4 _
      refine bodyPost_ret (v := .tuple #[.agg ([.int .i64 0, .string ⟨#[]⟩, .string ⟨#[]⟩, .int .i64 0, .int .i64 0] : List Value).toArray, .bool false]) (results_row_tmp10 rfl _ _ w.heap.size [.int .i64 0, .string ⟨#[]⟩, .string ⟨#[]⟩, .int .i64 0, .int .i64 0] _ (by simp) (.bool false) (by simp) (RF.range (by simp)) Try.underlying23 rfl (by kernel_rfl)) rfl ⟨HE.out, (((((BH2.out).setCell (Nat.le_refl _) _).setCell (Nat.le_refl _) _).setCell (Nat.le_refl _) _).setCell (Nat.le_refl _) _).setCell (Nat.le_refl _) _⟩

end Go.Proofs.Ytogfobmbmimpgaa
