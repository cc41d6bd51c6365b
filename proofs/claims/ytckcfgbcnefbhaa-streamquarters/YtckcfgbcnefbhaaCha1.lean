/-
  The contracts of package stream's Quarter and areFit, and of the reference's Quarter.
-/
import Derived.Test.YtckcfgbcnefbhaaCha0
import Derived.Test.YtckcfgbcnefbhaaSha6
namespace Go.Proofs.Ytckcfgbcnefbhaa
open Go.RowKit
set_option linter.unusedVariables false
set_option maxRecDepth 100000

/-- Four results. -/
theorem results_tmp4 {fn : Func} {t u v x : Tmp} (h : fn.results = #[.tmp t, .tmp u, .tmp v, .tmp x]) (tmps : Array Value) (P : Program) (w : World) :
    (results fn tmps).run P w = .ok (.tuple #[tmps.getD t undef, tmps.getD u undef, tmps.getD v undef, tmps.getD x undef]) w := by
  simp [results, h]

theorem stream_quarter (a b c d : Int) (w : World) (ha : W32 a) (hb : W32 b) (hc : W32 c) (hd : W32 d) :
    Calls Try.prog 10 #[.int .u32 a, .int .u32 b, .int .u32 c, .int .u32 d] w fun e w' => e = .returned (.tuple #[.int .u32 (qA a b c d), .int .u32 (qB a b c d), .int .u32 (qC a b c d), .int .u32 (qD a b c d)]) ∧ w = w' := by
  have hL : Hid (∀ (x n : Int) (w : World), W32 x → Calls Try.prog 18 #[.int .u32 x, .int .i64 n] w fun e w' => e = .returned (.int .u32 (rotl x n)) ∧ w = w') := fun x n w h => octet_left x n w h.1 h.2
  have h1 : W32 (xorI d ((a + b) % 4294967296)) := xorI_w hd (addI_w a b)
  have e1 := bxor_eq hd (show W32 ((a + b) % 4294967296) from addI_w a b)
  have D1 : Hid (rotl (xorI d ((a + b) % 4294967296)) 16 = qD1 a b d) := rfl
  have hD1 : W32 (qD1 a b d) := qD1_w hd
  have hC1 : W32 ((c + qD1 a b d) % 4294967296) := qC1_w a b c d
  have h2 : W32 (xorI b ((c + qD1 a b d) % 4294967296)) := xorI_w hb hC1
  have e2 := bxor_eq hb hC1
  have B1 : Hid (rotl (xorI b ((c + qD1 a b d) % 4294967296)) 12 = qB1 a b c d) := rfl
  have hB1 : W32 (qB1 a b c d) := qB1_w hb
  have hA2 : W32 (((a + b) % 4294967296 + qB1 a b c d) % 4294967296) := qA_w a b c d
  have h3 : W32 (xorI (qD1 a b d) (((a + b) % 4294967296 + qB1 a b c d) % 4294967296)) := xorI_w hD1 hA2
  have e3 := bxor_eq hD1 hA2
  have D2 : Hid (rotl (xorI (qD1 a b d) (((a + b) % 4294967296 + qB1 a b c d) % 4294967296)) 8 = qD a b c d) := rfl
  have hD2 : W32 (qD a b c d) := qD_w hd
  have hC2 : W32 (((c + qD1 a b d) % 4294967296 + qD a b c d) % 4294967296) := qC_w a b c d
  have h4 : W32 (xorI (qB1 a b c d) (((c + qD1 a b d) % 4294967296 + qD a b c d) % 4294967296)) := xorI_w hB1 hC2
  have e4 := bxor_eq hB1 hC2
  have B2 : Hid (rotl (xorI (qB1 a b c d) (((c + qD1 a b d) % 4294967296 + qD a b c d) % 4294967296)) 7 = qB a b c d) := rfl
  have hfin : Hid (((a + b) % 4294967296 + qB1 a b c d) % 4294967296 = qA a b c d ∧ ((c + qD1 a b d) % 4294967296 + qD a b c d) % 4294967296 = qC a b c d) := ⟨rfl, rfl⟩
  generalize qD1 a b d = d1 at *
  generalize qB1 a b c d = b1 at *
  generalize qD a b c d = d2 at *
  generalize qB a b c d = b2 at *
  go_enter Try.func10, Try.ntmps10
  go_wp2_with fail
  refine (hL.out _ _ _ h1).mono ?_
  rintro e w' ⟨rfl, rfl⟩
  rw [D1.out]
  clear D1 h1 e1
  generalize (a + b) % 4294967296 = a1 at *
  go_wp2_with fail
  refine (hL.out _ _ _ h2).mono ?_
  rintro e w' ⟨rfl, rfl⟩
  rw [B1.out]
  clear B1 h2 e2
  generalize (c + d1) % 4294967296 = c1 at *
  go_wp2_with fail
  refine (hL.out _ _ _ h3).mono ?_
  rintro e w' ⟨rfl, rfl⟩
  rw [D2.out]
  clear D2 h3 e3
  generalize (a1 + b1) % 4294967296 = a2 at *
  go_wp2_with fail
  refine (hL.out _ _ _ h4).mono ?_
  rintro e w' ⟨rfl, rfl⟩
  rw [B2.out]
  clear B2 h4 e4
  generalize (c1 + d2) % 4294967296 = c2 at *
  go_wp2
  refine bodyPost_ret (results_tmp4 rfl _ _ _) rfl ?_
  refine ⟨?_, rfl⟩
  rw [← hfin.out.1, ← hfin.out.2]
  rfl

theorem ref_quarter (a b c d : Int) (w : World) (ha : W32 a) (hb : W32 b) (hc : W32 c) (hd : W32 d) :
    Calls Try.prog 11 #[.int .u32 a, .int .u32 b, .int .u32 c, .int .u32 d] w fun e w' => e = .returned (.tuple #[.int .u32 (qA a b c d), .int .u32 (qB a b c d), .int .u32 (qC a b c d), .int .u32 (qD a b c d)]) ∧ w = w' := by
  have hL : Hid (∀ (x n : Int) (w : World), W32 x → Calls Try.prog 16 #[.int .u32 x, .int .i64 n] w fun e w' => e = .returned (.int .u32 (rotl x n)) ∧ w = w') := fun x n w h => ref_left x n w h.1 h.2
  have h1 : W32 (xorI d ((a + b) % 4294967296)) := xorI_w hd (addI_w a b)
  have e1 := bxor_eq hd (show W32 ((a + b) % 4294967296) from addI_w a b)
  have D1 : Hid (rotl (xorI d ((a + b) % 4294967296)) 16 = qD1 a b d) := rfl
  have hD1 : W32 (qD1 a b d) := qD1_w hd
  have hC1 : W32 ((c + qD1 a b d) % 4294967296) := qC1_w a b c d
  have h2 : W32 (xorI b ((c + qD1 a b d) % 4294967296)) := xorI_w hb hC1
  have e2 := bxor_eq hb hC1
  have B1 : Hid (rotl (xorI b ((c + qD1 a b d) % 4294967296)) 12 = qB1 a b c d) := rfl
  have hB1 : W32 (qB1 a b c d) := qB1_w hb
  have hA2 : W32 (((a + b) % 4294967296 + qB1 a b c d) % 4294967296) := qA_w a b c d
  have h3 : W32 (xorI (qD1 a b d) (((a + b) % 4294967296 + qB1 a b c d) % 4294967296)) := xorI_w hD1 hA2
  have e3 := bxor_eq hD1 hA2
  have D2 : Hid (rotl (xorI (qD1 a b d) (((a + b) % 4294967296 + qB1 a b c d) % 4294967296)) 8 = qD a b c d) := rfl
  have hD2 : W32 (qD a b c d) := qD_w hd
  have hC2 : W32 (((c + qD1 a b d) % 4294967296 + qD a b c d) % 4294967296) := qC_w a b c d
  have h4 : W32 (xorI (qB1 a b c d) (((c + qD1 a b d) % 4294967296 + qD a b c d) % 4294967296)) := xorI_w hB1 hC2
  have e4 := bxor_eq hB1 hC2
  have B2 : Hid (rotl (xorI (qB1 a b c d) (((c + qD1 a b d) % 4294967296 + qD a b c d) % 4294967296)) 7 = qB a b c d) := rfl
  have hfin : Hid (((a + b) % 4294967296 + qB1 a b c d) % 4294967296 = qA a b c d ∧ ((c + qD1 a b d) % 4294967296 + qD a b c d) % 4294967296 = qC a b c d) := ⟨rfl, rfl⟩
  generalize qD1 a b d = d1 at *
  generalize qB1 a b c d = b1 at *
  generalize qD a b c d = d2 at *
  generalize qB a b c d = b2 at *
  go_enter Try.func11, Try.ntmps11
  go_wp2_with fail
  refine (hL.out _ _ _ h1).mono ?_
  rintro e w' ⟨rfl, rfl⟩
  rw [D1.out]
  clear D1 h1 e1
  generalize (a + b) % 4294967296 = a1 at *
  go_wp2_with fail
  refine (hL.out _ _ _ h2).mono ?_
  rintro e w' ⟨rfl, rfl⟩
  rw [B1.out]
  clear B1 h2 e2
  generalize (c + d1) % 4294967296 = c1 at *
  go_wp2_with fail
  refine (hL.out _ _ _ h3).mono ?_
  rintro e w' ⟨rfl, rfl⟩
  rw [D2.out]
  clear D2 h3 e3
  generalize (a1 + b1) % 4294967296 = a2 at *
  go_wp2_with fail
  refine (hL.out _ _ _ h4).mono ?_
  rintro e w' ⟨rfl, rfl⟩
  rw [B2.out]
  clear B2 h4 e4
  generalize (c1 + d2) % 4294967296 = c2 at *
  go_wp2
  refine bodyPost_ret (results_tmp4 rfl _ _ _) rfl ?_
  refine ⟨?_, rfl⟩
  rw [← hfin.out.1, ← hfin.out.2]
  rfl

theorem stream_areFit (k n : ByteArray) (w : World) :
    Calls Try.prog 19 #[.string k, .string n] w fun e w' => e = .returned (.bool (decide (k.size = 32 ∧ n.size = 12))) ∧ w = w' := by
  by_cases h : k.size = 32 <;> by_cases h' : n.size = 12
  all_goals
    go_enter Try.func19, Try.ntmps19
    go_wp2
    go_ret
    exact ⟨by simp [h, h']; try omega, rfl⟩

end Go.Proofs.Ytckcfgbcnefbhaa
