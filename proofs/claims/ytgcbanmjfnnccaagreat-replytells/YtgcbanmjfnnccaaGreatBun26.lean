/-
  Parts of this proof, one behind the other: Rep5, RfC5.
-/
import Derived.Test.YtgcbanmjfnnccaaGreatBun25
import Derived.Test.YtgcbanmjfnnccaaGreatBun22
import Derived.Test.YtgcbanmjfnnccaaGreatBun24
import Derived.Deep.RegionHeld3

/-
  The contract of package command's GetReply.
-/
namespace Go.Proofs.YtgcbanmjfnnccaaGreat
open Go.RowKit
set_option linter.unusedVariables false
set_option maxRecDepth 100000
set_option linter.unusedSimpArgs false

theorem keysOf_list (K : List ByteArray) : keysOf K.length (fun i => (K.getD i ⟨#[]⟩).data.toList) = K := by
  apply List.ext_getElem
  · rw [keysOf_len]
  · intro i h1 h2
    simp [keysOf, h2, str_back]
theorem strs_of_own {w : World} {base : Nat} {oa : Option Addr} {cap : Nat} {K : List ByteArray} (h : OwnT w base (.slice oa K.length cap) K) : StrsAt w oa K.length (fun i => (K.getD i ⟨#[]⟩).data.toList) := by
  intro i hi
  obtain ⟨g, c, e, _⟩ := h.form (by omega)
  injection e with e1 e2 e3
  subst e1 e3
  refine ⟨g, 0, rfl, ?_⟩
  rw [Nat.zero_add, str_back]
  exact h.cell rfl i hi
theorem kst_sizes (x : KSt) (hx : x.keys = []) (k : Nat) : ∀ y ∈ (kst x k).keys, y.size ≤ x.rest.size := by
  induction k with
  | zero => intro y hy; rw [show (kst x 0).keys = x.keys from rfl, hx] at hy; cases hy
  | succ k ih =>
    intro y hy
    have hy' : y ∈ (kst x k).keys ++ [tkV (tkR (kst x k).rest 1) (nmN (kst x k).rest 1)] := hy
    rcases List.mem_append.1 hy' with h | h
    · exact ih y h
    · rw [List.mem_singleton] at h
      rw [h]
      exact Nat.le_trans (tkV_le _ _) (Nat.le_trans (tkR_le _ _) (kst_rest x k))
theorem own_other10 {w : World} {base : Nat} {v : Value} {K : List ByteArray} (h : OwnT w base v K) {a : Addr} (ha : a.block < base) (u : Value) : OwnT (w.setCell a u) base v K :=
  own_touch h ((Touch.refl (fun j => j = a.block) w).set (Or.inl rfl) u) (fun j hj hS => by have := (World.ownsRow.lt h j hj).1; omega)
theorem getR_world (w : World) (b : ByteArray) : RowIs (((w.alloc (.cells #[.int .i64 0, .string ⟨#[]⟩, .int .i64 0, .int .i64 0, .slice none 0 0] 25)).alloc (.cells #[.string b, .bool false] 69)).alloc (.cells #[.int .i64 0, .string ⟨#[]⟩, .int .i64 0, .int .i64 0, .slice none 0 0] 25)) w.heap.size 25 [.int .i64 0, .string ⟨#[]⟩, .int .i64 0, .int .i64 0, .slice none 0 0] ∧ PartsIs (((w.alloc (.cells #[.int .i64 0, .string ⟨#[]⟩, .int .i64 0, .int .i64 0, .slice none 0 0] 25)).alloc (.cells #[.string b, .bool false] 69)).alloc (.cells #[.int .i64 0, .string ⟨#[]⟩, .int .i64 0, .int .i64 0, .slice none 0 0] 25)) (w.heap.size + 1) b false ∧ RowIs (((w.alloc (.cells #[.int .i64 0, .string ⟨#[]⟩, .int .i64 0, .int .i64 0, .slice none 0 0] 25)).alloc (.cells #[.string b, .bool false] 69)).alloc (.cells #[.int .i64 0, .string ⟨#[]⟩, .int .i64 0, .int .i64 0, .slice none 0 0] 25)) (w.heap.size + 1 + 1) 25 [.int .i64 0, .string ⟨#[]⟩, .int .i64 0, .int .i64 0, .slice none 0 0] ∧ Below w.heap.size w (((w.alloc (.cells #[.int .i64 0, .string ⟨#[]⟩, .int .i64 0, .int .i64 0, .slice none 0 0] 25)).alloc (.cells #[.string b, .bool false] 69)).alloc (.cells #[.int .i64 0, .string ⟨#[]⟩, .int .i64 0, .int .i64 0, .slice none 0 0] 25)) ∧ (((w.alloc (.cells #[.int .i64 0, .string ⟨#[]⟩, .int .i64 0, .int .i64 0, .slice none 0 0] 25)).alloc (.cells #[.string b, .bool false] 69)).alloc (.cells #[.int .i64 0, .string ⟨#[]⟩, .int .i64 0, .int .i64 0, .slice none 0 0] 25)).heap.size = w.heap.size + 3 := by
  have a0 := RowIs.new w 25 [.int .i64 0, .string ⟨#[]⟩, .int .i64 0, .int .i64 0, .slice none 0 0]
  have s0 : (w.alloc (.cells #[.int .i64 0, .string ⟨#[]⟩, .int .i64 0, .int .i64 0, .slice none 0 0] 25)).heap.size = w.heap.size + 1 := by simp
  have a1 : PartsIs ((w.alloc (.cells #[.int .i64 0, .string ⟨#[]⟩, .int .i64 0, .int .i64 0, .slice none 0 0] 25)).alloc (.cells #[.string b, .bool false] 69)) ((w.alloc (.cells #[.int .i64 0, .string ⟨#[]⟩, .int .i64 0, .int .i64 0, .slice none 0 0] 25)).heap.size) b false := RowIs.new _ _ _
  have s1 : ((w.alloc (.cells #[.int .i64 0, .string ⟨#[]⟩, .int .i64 0, .int .i64 0, .slice none 0 0] 25)).alloc (.cells #[.string b, .bool false] 69)).heap.size = w.heap.size + 1 + 1 := by simp
  have a2 := RowIs.new ((w.alloc (.cells #[.int .i64 0, .string ⟨#[]⟩, .int .i64 0, .int .i64 0, .slice none 0 0] 25)).alloc (.cells #[.string b, .bool false] 69)) 25 [.int .i64 0, .string ⟨#[]⟩, .int .i64 0, .int .i64 0, .slice none 0 0]
  rw [s0] at a1
  rw [s1] at a2
  exact ⟨(a0.alloc _).alloc _, RowIs.alloc a1 _, a2, (((Below.refl _ _).alloc (Nat.le_refl _) _).alloc (by simp) _).alloc (by simp; omega) _, by simp⟩

set_option maxHeartbeats 2000000 in
theorem command_getReply (b : ByteArray) (w : World) (hb : b.size ≤ 1000000) : Calls Tryz.prog 8 #[.string b] w fun e w' => (∃ kv, OwnT w' w.heap.size kv (getR b).keys ∧ e = .returned (.tuple #[(getR b).v kv, .bool (getROk b)])) ∧ Below w.heap.size w w' := by
  have hm1 := tkR_le b 1
  have hm2 := tkR_le (tkR b 1) 8
  have hm3 := tkR_le (tkR (tkR b 1) 8) 8
  rw [midB_def] at hm3
  have hm4 := tkR_le (midB b) 2
  have hm5 := tkR_le (tkR (midB b) 2) (nmN (midB b) 2)
  rw [endB_def] at hm5
  have hm6 := tkR_le (endB b) 1
  have hv1 := tkV_le (tkR (midB b) 2) (nmN (midB b) 2)
  have Q1 := fun (p : Nat) (w : World) (h : PartsIs w p b false) => command_partsNumber p b false 1 w h hb (by decide)
  have Q2 := fun (p : Nat) (w : World) (h : PartsIs w p (tkR b 1) (nmB b false 1)) => command_partsNumbers p (tkR b 1) (nmB b false 1) w h (by omega)
  have Q3 := fun (p : Nat) (w : World) (h : PartsIs w p (midB b) (midF b)) => command_partsText p (midB b) (midF b) 2 w h (by omega) (by decide)
  have Q4 := fun (p : Nat) (w : World) (h : PartsIs w p (endB b) (endF b)) => command_partsKeys p (endB b) (endF b) w h (by omega)
  rw [show ((1 : Nat) : Int) = 1 from rfl] at Q1
  rw [show ((2 : Nat) : Int) = 2 from rfl, endB_def, endF_def] at Q3
  rw [midB_def, midF_def] at Q2
  rw [endK_def] at Q4
  have hks := kst_sizes ⟨tkR (endB b) 1, nmB (endB b) (endF b) 1, []⟩ rfl (nmN (endB b) 1)
  rw [endK_def] at hks
  dsimp only at hks
  have hks2 : ∀ y ∈ (endK b).keys, y.size ≤ 1000000 := fun y hy => by
    have h9 := hks y hy
    omega
  have HT := gotR_tells b
  rw [gotR_bad, gotR_rest, gotR_rep] at HT
  have n1 := nmN_le b 1
  have n2 := nmN_le (tkR b 1) 8
  have n3 := nmN_le (tkR (tkR b 1) 8) 8
  have hvl : (tkV (tkR (midB b) 2) (nmN (midB b) 2)).size ≤ maxLen := by unfold maxLen; omega
  clear hm1 hm2 hm3 hm4 hm5 hm6 hv1 hks
  have hkl : (endK b).keys.length ≤ 255 := by
    have h1 := kst_len ⟨tkR (endB b) 1, nmB (endB b) (endF b) 1, []⟩ (nmN (endB b) 1)
    rw [endK_def] at h1
    have h2 := nmN_one (endB b)
    simp only [List.length_nil] at h1
    omega
  generalize (endK b).bad = BAD at *
  generalize (endK b).rest = REST at *
  generalize (endK b).keys = K at *
  generalize endF b = B5 at *
  generalize endB b = S5 at *
  generalize tkV (tkR (midB b) 2) (nmN (midB b) 2) = VAL at *
  generalize midF b = B3 at *
  generalize midB b = S3 at *
  generalize nmN (tkR (tkR b 1) 8) 8 = VER at *
  generalize nmN (tkR b 1) 8 = NUM at *
  generalize nmB b false 1 = B1 at *
  generalize tkR b 1 = S1 at *
  generalize nmN b 1 = OP at *
  have P1 : Hid _ := Q1
  have P2 : Hid _ := Q2
  have P3 : Hid _ := Q3
  have P4 : Hid _ := Q4
  have HW : Hid _ := getR_world w b
  have HTH : Hid _ := HT
  have HKS : Hid _ := hks2
  clear Q1 Q2 Q3 Q4 HT hks2
  go_enter Tryz.func8, Tryz.ntmps8
  go_wp2_with fail
  obtain ⟨R0, RP, RC, B, hz⟩ := HW.out
  clear HW
  generalize ((w.alloc (.cells #[.int .i64 0, .string ⟨#[]⟩, .int .i64 0, .int .i64 0, .slice none 0 0] 25)).alloc (.cells #[.string b, .bool false] 69)).alloc (.cells #[.int .i64 0, .string ⟨#[]⟩, .int .i64 0, .int .i64 0, .slice none 0 0] 25) = w0 at *
  have g0 := R0.lt
  have gc := RC.lt
  have gp : w.heap.size + 1 < w0.heap.size := by omega
  with_reducible refine (P1.out _ _ RP).mono ?_
  rintro e w1 ⟨rfl, RP1, u1⟩
  replace RC := u1.row RC (by omega)
  replace R0 := u1.row R0 (by omega)
  replace B := Upon.beyond B u1 (by omega) (by omega)
  have hzw1 := u1.size
  have k0 : w1.cell? ⟨w.heap.size + 1 + 1, 0, none⟩ = some (.int .i64 0) := RC.cellAt rfl
  have f0 : w1.frozen? ⟨w.heap.size + 1 + 1, 0, none⟩ = false := RC.frozen 0
  clear RP u1
  go_wp2_with fail
  have RP : PartsIs ((w1).setCell ⟨w.heap.size + 1 + 1, 0, none⟩ (.int .i64 (OP : Int))) _ _ _ := (RowIs.setOther (a := ⟨w.heap.size + 1 + 1, 0, none⟩) RP1 (show w.heap.size + 1 ≠ w.heap.size + 1 + 1 by omega) (.int .i64 (OP : Int)))
  replace RC := (RowIs.set RC 0 (.int .i64 (OP : Int)))
  replace R0 := (RowIs.setOther (a := ⟨w.heap.size + 1 + 1, 0, none⟩) R0 (show w.heap.size ≠ w.heap.size + 1 + 1 by omega) (.int .i64 (OP : Int)))
  replace B : Below w.heap.size w ((w1).setCell ⟨w.heap.size + 1 + 1, 0, none⟩ (.int .i64 (OP : Int))) := (Below.setCell B (show w.heap.size ≤ w.heap.size + 1 + 1 by omega) (.int .i64 (OP : Int)))
  have hy1 : ((w1).setCell ⟨w.heap.size + 1 + 1, 0, none⟩ (.int .i64 (OP : Int))).heap.size = w1.heap.size := by simp [World.setCell]
  clear k0 f0 RP1
  generalize (w1).setCell ⟨w.heap.size + 1 + 1, 0, none⟩ (.int .i64 (OP : Int)) = v1 at *
  with_reducible refine (P2.out _ _ RP).mono ?_
  rintro e w3 ⟨rfl, RP1, u1⟩
  replace RC := u1.row RC (by omega)
  replace R0 := u1.row R0 (by omega)
  replace B := Upon.beyond B u1 (by omega) (by omega)
  have hzw3 := u1.size
  have k2 : w3.cell? ⟨w.heap.size + 1 + 1, 2, none⟩ = some (.int .i64 0) := RC.cellAt rfl
  have f2 : w3.frozen? ⟨w.heap.size + 1 + 1, 2, none⟩ = false := RC.frozen 2
  have k3 : w3.cell? ⟨w.heap.size + 1 + 1, 3, none⟩ = some (.int .i64 0) := RC.cellAt rfl
  have f3 : w3.frozen? ⟨w.heap.size + 1 + 1, 3, none⟩ = false := RC.frozen 3
  clear RP u1
  go_wp2_with fail
  have RP : PartsIs (((w3).setCell ⟨w.heap.size + 1 + 1, 2, none⟩ (.int .i64 ((NUM : Int) - 1000000000000))).setCell ⟨w.heap.size + 1 + 1, 3, none⟩ (.int .i64 (VER : Int))) _ _ _ := (RowIs.setOther (a := ⟨w.heap.size + 1 + 1, 3, none⟩) (RowIs.setOther (a := ⟨w.heap.size + 1 + 1, 2, none⟩) RP1 (show w.heap.size + 1 ≠ w.heap.size + 1 + 1 by omega) (.int .i64 ((NUM : Int) - 1000000000000))) (show w.heap.size + 1 ≠ w.heap.size + 1 + 1 by omega) (.int .i64 (VER : Int)))
  replace RC := (RowIs.set (RowIs.set RC 2 (.int .i64 ((NUM : Int) - 1000000000000))) 3 (.int .i64 (VER : Int)))
  replace R0 := (RowIs.setOther (a := ⟨w.heap.size + 1 + 1, 3, none⟩) (RowIs.setOther (a := ⟨w.heap.size + 1 + 1, 2, none⟩) R0 (show w.heap.size ≠ w.heap.size + 1 + 1 by omega) (.int .i64 ((NUM : Int) - 1000000000000))) (show w.heap.size ≠ w.heap.size + 1 + 1 by omega) (.int .i64 (VER : Int)))
  replace B : Below w.heap.size w (((w3).setCell ⟨w.heap.size + 1 + 1, 2, none⟩ (.int .i64 ((NUM : Int) - 1000000000000))).setCell ⟨w.heap.size + 1 + 1, 3, none⟩ (.int .i64 (VER : Int))) := (Below.setCell (Below.setCell B (show w.heap.size ≤ w.heap.size + 1 + 1 by omega) (.int .i64 ((NUM : Int) - 1000000000000))) (show w.heap.size ≤ w.heap.size + 1 + 1 by omega) (.int .i64 (VER : Int)))
  have hy2 : (((w3).setCell ⟨w.heap.size + 1 + 1, 2, none⟩ (.int .i64 ((NUM : Int) - 1000000000000))).setCell ⟨w.heap.size + 1 + 1, 3, none⟩ (.int .i64 (VER : Int))).heap.size = w3.heap.size := by simp [World.setCell]
  clear k2 f2 k3 f3 RP1
  generalize ((w3).setCell ⟨w.heap.size + 1 + 1, 2, none⟩ (.int .i64 ((NUM : Int) - 1000000000000))).setCell ⟨w.heap.size + 1 + 1, 3, none⟩ (.int .i64 (VER : Int)) = v2 at *
  with_reducible refine (P3.out _ _ RP).mono ?_
  rintro e w5 ⟨rfl, RP1, u1⟩
  replace RC := u1.row RC (by omega)
  replace R0 := u1.row R0 (by omega)
  replace B := Upon.beyond B u1 (by omega) (by omega)
  have hzw5 := u1.size
  have k1 : w5.cell? ⟨w.heap.size + 1 + 1, 1, none⟩ = some (.string ⟨#[]⟩) := RC.cellAt rfl
  have f1 : w5.frozen? ⟨w.heap.size + 1 + 1, 1, none⟩ = false := RC.frozen 1
  clear RP u1
  go_wp2_with fail
  have RP : PartsIs ((w5).setCell ⟨w.heap.size + 1 + 1, 1, none⟩ (.string VAL)) _ _ _ := (RowIs.setOther (a := ⟨w.heap.size + 1 + 1, 1, none⟩) RP1 (show w.heap.size + 1 ≠ w.heap.size + 1 + 1 by omega) (.string VAL))
  replace RC := (RowIs.set RC 1 (.string VAL))
  replace R0 := (RowIs.setOther (a := ⟨w.heap.size + 1 + 1, 1, none⟩) R0 (show w.heap.size ≠ w.heap.size + 1 + 1 by omega) (.string VAL))
  replace B : Below w.heap.size w ((w5).setCell ⟨w.heap.size + 1 + 1, 1, none⟩ (.string VAL)) := (Below.setCell B (show w.heap.size ≤ w.heap.size + 1 + 1 by omega) (.string VAL))
  have hy3 : ((w5).setCell ⟨w.heap.size + 1 + 1, 1, none⟩ (.string VAL)).heap.size = w5.heap.size := by simp [World.setCell]
  clear k1 f1 RP1
  generalize (w5).setCell ⟨w.heap.size + 1 + 1, 1, none⟩ (.string VAL) = v3 at *
  with_reducible refine (P4.out _ _ RP).mono ?_
  rintro e w7 ⟨⟨kv, hown, rfl⟩, RP1, u1⟩
  replace RC := u1.row RC (by omega)
  replace R0 := u1.row R0 (by omega)
  replace B := Upon.beyond B u1 (by omega) (by omega)
  have hzw7 := u1.size
  obtain ⟨oa, cap, rfl⟩ : ∃ a c, kv = Value.slice a K.length c := by
    have := (own_seen hown).form
    rw [cellsT_len] at this
    exact this
  have k4 : w7.cell? ⟨w.heap.size + 1 + 1, 4, none⟩ = some (.slice none 0 0) := RC.cellAt rfl
  have f4 : w7.frozen? ⟨w.heap.size + 1 + 1, 4, none⟩ = false := RC.frozen 4
  have c0 : w7.cell? ⟨w.heap.size + 1, 0, none⟩ = some (.string REST) := RowIs.cellAt RP1 rfl
  have c1 : w7.cell? ⟨w.heap.size + 1, 1, none⟩ = some (.bool BAD) := RowIs.cellAt RP1 rfl
  have k0 : w7.cell? ⟨w.heap.size + 1 + 1, 0, none⟩ = some (.int .i64 (OP : Int)) := RC.cellAt rfl
  have k1 : w7.cell? ⟨w.heap.size + 1 + 1, 1, none⟩ = some (.string VAL) := RC.cellAt rfl
  have k2 : w7.cell? ⟨w.heap.size + 1 + 1, 2, none⟩ = some (.int .i64 ((NUM : Int) - 1000000000000)) := RC.cellAt rfl
  have k3 : w7.cell? ⟨w.heap.size + 1 + 1, 3, none⟩ = some (.int .i64 (VER : Int)) := RC.cellAt rfl
  replace hown := OwnT.base hown (show w.heap.size + 1 + 1 + 1 ≤ v3.heap.size by omega)
  have hown8 := own_other10 hown (a := ⟨w.heap.size + 1 + 1, 4, none⟩) (show w.heap.size + 1 + 1 < w.heap.size + 1 + 1 + 1 by omega) (.slice oa K.length cap)
  have RC8 := RowIs.set RC 4 (.slice oa K.length cap)
  have R08 := RowIs.setOther (a := ⟨w.heap.size + 1 + 1, 4, none⟩) R0 (show w.heap.size ≠ w.heap.size + 1 + 1 by omega) (.slice oa K.length cap)
  have B8 : Below w.heap.size w (w7.setCell ⟨w.heap.size + 1 + 1, 4, none⟩ (.slice oa K.length cap)) := Below.setCell B (show w.heap.size ≤ w.heap.size + 1 + 1 by omega) (.slice oa K.length cap)
  have OH := hide hown8
  have RCH := hide RC8
  have R0H := hide R08
  have BH := hide B8
  have PI0 := fun w2 hk => command_isReply (OP : Int) VAL ((NUM : Int) - 1000000000000) (VER : Int) oa K.length cap (fun i => (K.getD i ⟨#[]⟩).data.toList) w2 hvl (by unfold maxLen; omega) (fun i hi => by
    have : K.getD i ⟨#[]⟩ ∈ K := by rw [List.getD_eq_getElem?_getD, List.getElem?_eq_getElem hi]; exact List.getElem_mem _
    have := HKS.out _ this
    have e9 : ∀ s : ByteArray, s.data.toList.length = s.size := fun s => by simp
    show ((K.getD i ⟨#[]⟩).data.toList).length ≤ maxLen
    rw [e9]
    unfold maxLen
    omega) hk
  rw [keysOf_list] at PI0
  have PI : Hid _ := PI0
  have HS : Hid (StrsAt (w7.setCell ⟨w.heap.size + 1 + 1, 4, none⟩ (.slice oa K.length cap)) oa K.length (fun i => (K.getD i ⟨#[]⟩).data.toList)) := strs_of_own hown8
  clear RP RP1 u1 RC R0 B hown hown8 RC8 R08 B8 PI0
  rcases HTH.out with ⟨rfl, rfl, hok, g1, g2⟩ | ⟨hno, g1, g2⟩
  · have hk : Rep.ok ⟨(OP : Int), VAL, (NUM : Int) - 1000000000000, (VER : Int), K⟩ = true := decide_eq_true hok
    have PI1 := PI.out
    rw [hk] at PI1
    have PIY : Hid _ := PI1
    have HE : Hid ((getR b).keys = K ∧ ∀ kv, (getR b).v kv = .agg #[.int .i64 (OP : Int), .string VAL, .int .i64 ((NUM : Int) - 1000000000000), .int .i64 (VER : Int), kv]) := by rw [g1]; exact ⟨rfl, fun _ => rfl⟩
    have HE2 : Hid (getROk b = true) := g2
    have e5 := empty_list
    have e6 := str_beq_self ⟨#[]⟩
    clear PI PI1 hk hok g1 g2 HTH HKS
    go_wp2_with fail
    with_reducible refine (PIY.out _ HS.out).mono ?_
    rintro e w8 ⟨rfl, b8⟩
    have RC9 := RowIs.below RCH.out b8 (RowIs.lt RCH.out)
    have R09 := RowIs.below R0H.out b8 (RowIs.lt R0H.out)
    have B9 := bel_chain8 BH.out b8
    have OH9 := OwnT.below OH.out b8
    clear b8 k0 k1 k2 k3 k4 f4 c0 c1
    have k0 : w8.cell? ⟨w.heap.size + 1 + 1, 0, none⟩ = some (.int .i64 (OP : Int)) := RowIs.cellAt RC9 rfl
    have k1 : w8.cell? ⟨w.heap.size + 1 + 1, 1, none⟩ = some (.string VAL) := RowIs.cellAt RC9 rfl
    have k2 : w8.cell? ⟨w.heap.size + 1 + 1, 2, none⟩ = some (.int .i64 ((NUM : Int) - 1000000000000)) := RowIs.cellAt RC9 rfl
    have k3 : w8.cell? ⟨w.heap.size + 1 + 1, 3, none⟩ = some (.int .i64 (VER : Int)) := RowIs.cellAt RC9 rfl
    have k4 : w8.cell? ⟨w.heap.size + 1 + 1, 4, none⟩ = some (.slice oa K.length cap) := RowIs.cellAt RC9 rfl
    have r0 : w8.cell? ⟨w.heap.size, 0, none⟩ = some (.int .i64 0) := RowIs.cellAt R09 rfl
    have r1 : w8.cell? ⟨w.heap.size, 1, none⟩ = some (.string ⟨#[]⟩) := RowIs.cellAt R09 rfl
    have r2 : w8.cell? ⟨w.heap.size, 2, none⟩ = some (.int .i64 0) := RowIs.cellAt R09 rfl
    have r3 : w8.cell? ⟨w.heap.size, 3, none⟩ = some (.int .i64 0) := RowIs.cellAt R09 rfl
    have r4 : w8.cell? ⟨w.heap.size, 4, none⟩ = some (.slice none 0 0) := RowIs.cellAt R09 rfl
    have t0 : w8.frozen? ⟨w.heap.size, 0, none⟩ = false := RowIs.frozen R09 0
    have t1 : w8.frozen? ⟨w.heap.size, 1, none⟩ = false := RowIs.frozen R09 1
    have t2 : w8.frozen? ⟨w.heap.size, 2, none⟩ = false := RowIs.frozen R09 2
    have t3 : w8.frozen? ⟨w.heap.size, 3, none⟩ = false := RowIs.frozen R09 3
    have t4 : w8.frozen? ⟨w.heap.size, 4, none⟩ = false := RowIs.frozen R09 4
    have R0Y := hide R09
    have OHY := hide OH9
    have BY := hide B9
    clear RC9 R09 B9 OH9 RCH R0H BH OH HS PIY
    go_wp2
    have RF : RowIs ((((((w8).setCell ⟨w.heap.size, 0, none⟩ (.int .i64 (OP : Int))).setCell ⟨w.heap.size, 1, none⟩ (.string VAL)).setCell ⟨w.heap.size, 2, none⟩ (.int .i64 ((NUM : Int) - 1000000000000))).setCell ⟨w.heap.size, 3, none⟩ (.int .i64 (VER : Int))).setCell ⟨w.heap.size, 4, none⟩ (.slice oa K.length cap)) w.heap.size 25 [.int .i64 (OP : Int), .string VAL, .int .i64 ((NUM : Int) - 1000000000000), .int .i64 (VER : Int), .slice oa K.length cap] := ((((RowIs.set R0Y.out 0 _).set 1 _).set 2 _).set 3 _).set 4 _
    refine bodyPost_ret (v := .tuple #[.agg ([.int .i64 (OP : Int), .string VAL, .int .i64 ((NUM : Int) - 1000000000000), .int .i64 (VER : Int), .slice oa K.length cap] : List Value).toArray, .bool true]) (results_row_tmp10 rfl _ _ w.heap.size [.int .i64 (OP : Int), .string VAL, .int .i64 ((NUM : Int) - 1000000000000), .int .i64 (VER : Int), .slice oa K.length cap] _ (by simp) (.bool true) (by simp) (RF.range (by simp)) Tryz.underlying25 rfl (by kernel_rfl)) rfl ?_
    exact ⟨⟨.slice oa K.length cap, by rw [HE.out.1]; exact OwnT.base (own_other10 (own_other10 (own_other10 (own_other10 (own_other10 OHY.out (a := ⟨w.heap.size, 0, none⟩) (show w.heap.size < w.heap.size + 1 + 1 + 1 by omega) _) (a := ⟨w.heap.size, 1, none⟩) (show w.heap.size < w.heap.size + 1 + 1 + 1 by omega) _) (a := ⟨w.heap.size, 2, none⟩) (show w.heap.size < w.heap.size + 1 + 1 + 1 by omega) _) (a := ⟨w.heap.size, 3, none⟩) (show w.heap.size < w.heap.size + 1 + 1 + 1 by omega) _) (a := ⟨w.heap.size, 4, none⟩) (show w.heap.size < w.heap.size + 1 + 1 + 1 by omega) _) (by omega), by rw [HE.out.2, HE2.out]⟩, (Below.setCell (Below.setCell (Below.setCell (Below.setCell (Below.setCell BY.out (Nat.le_refl _) _) (Nat.le_refl _) _) (Nat.le_refl _) _) (Nat.le_refl _) _) (Nat.le_refl _) _)⟩
  · have HE : Hid ((getR b).keys = [] ∧ ∀ kv, (getR b).v kv = .agg #[.int .i64 0, .string ⟨#[]⟩, .int .i64 0, .int .i64 0, kv]) := by rw [g1]; exact ⟨rfl, fun _ => rfl⟩
    have HE2 : Hid (getROk b = false) := g2
    have hcase : BAD = true ∨ (BAD = false ∧ REST ≠ ⟨#[]⟩) ∨ (BAD = false ∧ REST = ⟨#[]⟩ ∧ Rep.ok ⟨(OP : Int), VAL, (NUM : Int) - 1000000000000, (VER : Int), K⟩ = false) := by
      cases BAD with
      | true => exact Or.inl rfl
      | false =>
        by_cases hr : REST = ⟨#[]⟩
        · exact Or.inr (Or.inr ⟨rfl, hr, decide_eq_false (fun h => hno ⟨rfl, hr, h⟩)⟩)
        · exact Or.inr (Or.inl ⟨rfl, hr⟩)
    clear hno g1 g2 HTH HKS
    have R09 := R0H.out
    have r0 : (w7.setCell ⟨w.heap.size + 1 + 1, 4, none⟩ (.slice oa K.length cap)).cell? ⟨w.heap.size, 0, none⟩ = some (.int .i64 0) := RowIs.cellAt R09 rfl
    have r1 : (w7.setCell ⟨w.heap.size + 1 + 1, 4, none⟩ (.slice oa K.length cap)).cell? ⟨w.heap.size, 1, none⟩ = some (.string ⟨#[]⟩) := RowIs.cellAt R09 rfl
    have r2 : (w7.setCell ⟨w.heap.size + 1 + 1, 4, none⟩ (.slice oa K.length cap)).cell? ⟨w.heap.size, 2, none⟩ = some (.int .i64 0) := RowIs.cellAt R09 rfl
    have r3 : (w7.setCell ⟨w.heap.size + 1 + 1, 4, none⟩ (.slice oa K.length cap)).cell? ⟨w.heap.size, 3, none⟩ = some (.int .i64 0) := RowIs.cellAt R09 rfl
    have r4 : (w7.setCell ⟨w.heap.size + 1 + 1, 4, none⟩ (.slice oa K.length cap)).cell? ⟨w.heap.size, 4, none⟩ = some (.slice none 0 0) := RowIs.cellAt R09 rfl
    have t0 : (w7.setCell ⟨w.heap.size + 1 + 1, 4, none⟩ (.slice oa K.length cap)).frozen? ⟨w.heap.size, 0, none⟩ = false := RowIs.frozen R09 0
    have t1 : (w7.setCell ⟨w.heap.size + 1 + 1, 4, none⟩ (.slice oa K.length cap)).frozen? ⟨w.heap.size, 1, none⟩ = false := RowIs.frozen R09 1
    have t2 : (w7.setCell ⟨w.heap.size + 1 + 1, 4, none⟩ (.slice oa K.length cap)).frozen? ⟨w.heap.size, 2, none⟩ = false := RowIs.frozen R09 2
    have t3 : (w7.setCell ⟨w.heap.size + 1 + 1, 4, none⟩ (.slice oa K.length cap)).frozen? ⟨w.heap.size, 3, none⟩ = false := RowIs.frozen R09 3
    have t4 : (w7.setCell ⟨w.heap.size + 1 + 1, 4, none⟩ (.slice oa K.length cap)).frozen? ⟨w.heap.size, 4, none⟩ = false := RowIs.frozen R09 4
    clear R09
    rcases hcase with rfl | ⟨rfl, hr⟩ | ⟨rfl, rfl, hk⟩
    · go_wp2
      have RF : RowIs (((((((w7.setCell ⟨w.heap.size + 1 + 1, 4, none⟩ (.slice oa K.length cap))).setCell ⟨w.heap.size, 0, none⟩ (.int .i64 0)).setCell ⟨w.heap.size, 1, none⟩ (.string ⟨#[]⟩)).setCell ⟨w.heap.size, 2, none⟩ (.int .i64 0)).setCell ⟨w.heap.size, 3, none⟩ (.int .i64 0)).setCell ⟨w.heap.size, 4, none⟩ (.slice none 0 0)) w.heap.size 25 [.int .i64 0, .string ⟨#[]⟩, .int .i64 0, .int .i64 0, .slice none 0 0] := ((((RowIs.set R0H.out 0 _).set 1 _).set 2 _).set 3 _).set 4 _
      refine bodyPost_ret (v := .tuple #[.agg ([.int .i64 0, .string ⟨#[]⟩, .int .i64 0, .int .i64 0, .slice none 0 0] : List Value).toArray, .bool false]) (results_row_tmp10 rfl _ _ w.heap.size [.int .i64 0, .string ⟨#[]⟩, .int .i64 0, .int .i64 0, .slice none 0 0] _ (by simp) (.bool false) (by simp) (RF.range (by simp)) Tryz.underlying25 rfl (by kernel_rfl)) rfl ?_
      exact ⟨⟨.slice none 0 0, by rw [HE.out.1]; exact World.ownsRow_nil _ _ _ _, by rw [HE.out.2, HE2.out]⟩, (Below.setCell (Below.setCell (Below.setCell (Below.setCell (Below.setCell BH.out (Nat.le_refl _) _) (Nat.le_refl _) _) (Nat.le_refl _) _) (Nat.le_refl _) _) (Nat.le_refl _) _)⟩
    · have e1 := str_full REST hr
      have e2 : ¬ REST.toList = [] := fun e => by rw [e] at e1; cases e1
      have e3 : decide (REST = ByteArray.empty) = false := decide_eq_false hr
      clear hr
      go_wp2
      have RF : RowIs (((((((w7.setCell ⟨w.heap.size + 1 + 1, 4, none⟩ (.slice oa K.length cap))).setCell ⟨w.heap.size, 0, none⟩ (.int .i64 0)).setCell ⟨w.heap.size, 1, none⟩ (.string ⟨#[]⟩)).setCell ⟨w.heap.size, 2, none⟩ (.int .i64 0)).setCell ⟨w.heap.size, 3, none⟩ (.int .i64 0)).setCell ⟨w.heap.size, 4, none⟩ (.slice none 0 0)) w.heap.size 25 [.int .i64 0, .string ⟨#[]⟩, .int .i64 0, .int .i64 0, .slice none 0 0] := ((((RowIs.set R0H.out 0 _).set 1 _).set 2 _).set 3 _).set 4 _
      refine bodyPost_ret (v := .tuple #[.agg ([.int .i64 0, .string ⟨#[]⟩, .int .i64 0, .int .i64 0, .slice none 0 0] : List Value).toArray, .bool false]) (results_row_tmp10 rfl _ _ w.heap.size [.int .i64 0, .string ⟨#[]⟩, .int .i64 0, .int .i64 0, .slice none 0 0] _ (by simp) (.bool false) (by simp) (RF.range (by simp)) Tryz.underlying25 rfl (by kernel_rfl)) rfl ?_
      exact ⟨⟨.slice none 0 0, by rw [HE.out.1]; exact World.ownsRow_nil _ _ _ _, by rw [HE.out.2, HE2.out]⟩, (Below.setCell (Below.setCell (Below.setCell (Below.setCell (Below.setCell BH.out (Nat.le_refl _) _) (Nat.le_refl _) _) (Nat.le_refl _) _) (Nat.le_refl _) _) (Nat.le_refl _) _)⟩
    · have PI1 := PI.out
      rw [hk] at PI1
      have PIY : Hid _ := PI1
      have e5 := empty_list
      have e6 := str_beq_self ⟨#[]⟩
      clear PI PI1 hk r0 r1 r2 r3 r4 t0 t1 t2 t3 t4
      go_wp2_with fail
      with_reducible refine (PIY.out _ HS.out).mono ?_
      rintro e w8 ⟨rfl, b8⟩
      have R09 := RowIs.below R0H.out b8 (RowIs.lt R0H.out)
      have B9 := bel_chain8 BH.out b8
      clear b8 k0 k1 k2 k3 k4 f4 c0 c1
      have r0 : w8.cell? ⟨w.heap.size, 0, none⟩ = some (.int .i64 0) := RowIs.cellAt R09 rfl
      have r1 : w8.cell? ⟨w.heap.size, 1, none⟩ = some (.string ⟨#[]⟩) := RowIs.cellAt R09 rfl
      have r2 : w8.cell? ⟨w.heap.size, 2, none⟩ = some (.int .i64 0) := RowIs.cellAt R09 rfl
      have r3 : w8.cell? ⟨w.heap.size, 3, none⟩ = some (.int .i64 0) := RowIs.cellAt R09 rfl
      have r4 : w8.cell? ⟨w.heap.size, 4, none⟩ = some (.slice none 0 0) := RowIs.cellAt R09 rfl
      have t0 : w8.frozen? ⟨w.heap.size, 0, none⟩ = false := RowIs.frozen R09 0
      have t1 : w8.frozen? ⟨w.heap.size, 1, none⟩ = false := RowIs.frozen R09 1
      have t2 : w8.frozen? ⟨w.heap.size, 2, none⟩ = false := RowIs.frozen R09 2
      have t3 : w8.frozen? ⟨w.heap.size, 3, none⟩ = false := RowIs.frozen R09 3
      have t4 : w8.frozen? ⟨w.heap.size, 4, none⟩ = false := RowIs.frozen R09 4
      have R0N := hide R09
      have BN := hide B9
      clear R09 B9
      go_wp2
      have RF : RowIs ((((((w8).setCell ⟨w.heap.size, 0, none⟩ (.int .i64 0)).setCell ⟨w.heap.size, 1, none⟩ (.string ⟨#[]⟩)).setCell ⟨w.heap.size, 2, none⟩ (.int .i64 0)).setCell ⟨w.heap.size, 3, none⟩ (.int .i64 0)).setCell ⟨w.heap.size, 4, none⟩ (.slice none 0 0)) w.heap.size 25 [.int .i64 0, .string ⟨#[]⟩, .int .i64 0, .int .i64 0, .slice none 0 0] := ((((RowIs.set R0N.out 0 _).set 1 _).set 2 _).set 3 _).set 4 _
      refine bodyPost_ret (v := .tuple #[.agg ([.int .i64 0, .string ⟨#[]⟩, .int .i64 0, .int .i64 0, .slice none 0 0] : List Value).toArray, .bool false]) (results_row_tmp10 rfl _ _ w.heap.size [.int .i64 0, .string ⟨#[]⟩, .int .i64 0, .int .i64 0, .slice none 0 0] _ (by simp) (.bool false) (by simp) (RF.range (by simp)) Tryz.underlying25 rfl (by kernel_rfl)) rfl ?_
      exact ⟨⟨.slice none 0 0, by rw [HE.out.1]; exact World.ownsRow_nil _ _ _ _, by rw [HE.out.2, HE2.out]⟩, (Below.setCell (Below.setCell (Below.setCell (Below.setCell (Below.setCell BN.out (Nat.le_refl _) _) (Nat.le_refl _) _) (Nat.le_refl _) _) (Nat.le_refl _) _) (Nat.le_refl _) _)⟩

end Go.Proofs.YtgcbanmjfnnccaaGreat

/-
  The reference's GetReply where the head turns the bytes away.
-/
namespace Go.Proofs.YtgcbanmjfnnccaaGreat
open Go.RowKit
set_option linter.unusedVariables false
set_option maxRecDepth 100000
set_option linter.unusedSimpArgs false

theorem sizeAt_bd (l : List UInt8) : numOf ((l.drop 17).take 2) = (sizeAt l : Int) ∧ sizeAt l < 65536 := by
  have h := numOf_bd ((l.drop 17).take 2)
  have h2 : (256 : Int) ^ ((l.drop 17).take 2).length ≤ 65536 := by
    have h3 : ((l.drop 17).take 2).length ≤ 2 := by rw [List.length_take]; omega
    generalize ((l.drop 17).take 2).length = n at h3
    have : n = 0 ∨ n = 1 ∨ n = 2 := by omega
    rcases this with rfl | rfl | rfl <;> decide
  unfold sizeAt
  omega
theorem bigS_ext2 (b : ByteArray) (h : 19 ≤ b.size) : bigS (b.extract 17 19) = (sizeAt b.data.toList : Int) := by
  rw [bigS_small _ (by rw [ByteArray.size_extract]; omega), extract_list10]
  exact (sizeAt_bd _).1

set_option maxHeartbeats 1000000 in
theorem ref_getReply_away (b : ByteArray) (w : World) (hb : b.size ≤ 1000000) (hg : getR b = Rep.zero ∧ getROk b = false) (hc : ¬ (20 + sizeAt b.data.toList ≤ b.size ∧ numOf ((b.data.toList.drop 1).take 8) ≤ 2000000000000 ∧ numOf ((b.data.toList.drop 9).take 8) ≤ 1000000000000)) : Calls Tryz.prog 9 #[.string b] w fun e w' => (∃ kv, OwnT w' w.heap.size kv (getR b).keys ∧ e = .returned (.tuple #[(getR b).v kv, .bool (getROk b)])) ∧ Below w.heap.size w w' := by
  have hbl : Below w.heap.size w (w.alloc (.cells #[.int .i64 0, .string ⟨#[]⟩, .int .i64 0, .int .i64 0, .slice none 0 0] 25)) := (Below.refl _ _).alloc (Nat.le_refl _) _
  have R0 := RowIs.new w 25 [.int .i64 0, .string ⟨#[]⟩, .int .i64 0, .int .i64 0, .slice none 0 0]
  have HE : Hid (∀ w' : World, (∃ kv, OwnT w' w.heap.size kv (getR b).keys ∧ Ending.returned (.tuple #[.agg #[.int .i64 0, .string ⟨#[]⟩, .int .i64 0, .int .i64 0, .slice none 0 0], .bool false]) = Ending.returned (.tuple #[(getR b).v kv, .bool (getROk b)]))) := fun w' => by
    rw [hg.1, hg.2]
    exact ⟨.slice none 0 0, World.ownsRow_nil _ _ _ _, rfl⟩
  clear hg
  by_cases h20 : b.size < 20
  · have d1 : decide ((b.size : Int) < 20) = true := decide_eq_true (by omega)
    clear hc
    go_enter Tryz.func9, Tryz.ntmps9
    go_wp2
    exact bodyPost_ret (v := .tuple #[.agg ([.int .i64 0, .string ⟨#[]⟩, .int .i64 0, .int .i64 0, .slice none 0 0] : List Value).toArray, .bool false]) (results_row_tmp10 rfl _ _ w.heap.size [.int .i64 0, .string ⟨#[]⟩, .int .i64 0, .int .i64 0, .slice none 0 0] _ (by simp) (.bool false) (by simp) (RowIs.range R0 rfl) Tryz.underlying25 rfl (by kernel_rfl)) rfl ⟨HE.out _, hbl⟩
  have d1 : decide ((b.size : Int) < 20) = false := decide_eq_false (by omega)
  have e1 := bigS_ext b 1 (by omega)
  have e9 := bigS_ext b 9 (by omega)
  have e17 := bigS_ext2 b (by omega)
  have hs2 := (sizeAt_bd b.data.toList).2
  have Q1 := fun w => ref_big (b.extract 1 9) w (by rw [ByteArray.size_extract]; unfold maxLen; omega)
  have Q2 := fun w => ref_big (b.extract 9 17) w (by rw [ByteArray.size_extract]; unfold maxLen; omega)
  have Q3 := fun w => ref_big (b.extract 17 19) w (by rw [ByteArray.size_extract]; unfold maxLen; omega)
  rw [show (9 : Nat) = 1 + 8 from rfl, e1] at Q1
  rw [show (17 : Nat) = 9 + 8 from rfl, e9] at Q2
  rw [e17] at Q3
  clear e1 e9 e17
  have d4 : (9 : Int) ≤ (b.size : Int) := by omega
  have d5 : (17 : Int) ≤ (b.size : Int) := by omega
  have d5' : (19 : Int) ≤ (b.size : Int) := by omega
  have S1 : ∀ w : World, (Instr.slice 9 (.string b) (some (.int .i64 1)) (some (.int .i64 9)) none).run Tryz.prog w = .ok (.string (b.extract 1 9)) w := fun w => slice_mid10 b 1 9 w (by omega) (by omega)
  have S2 : ∀ w : World, (Instr.slice 9 (.string b) (some (.int .i64 9)) (some (.int .i64 17)) none).run Tryz.prog w = .ok (.string (b.extract 9 17)) w := fun w => slice_mid10 b 9 17 w (by omega) (by omega)
  have S3 : ∀ w : World, (Instr.slice 9 (.string b) (some (.int .i64 17)) (some (.int .i64 19)) none).run Tryz.prog w = .ok (.string (b.extract 17 19)) w := fun w => slice_mid10 b 17 19 w (by omega) (by omega)
  generalize numOf ((b.data.toList.drop 1).take 8) = N at *
  generalize numOf ((b.data.toList.drop 9).take 8) = V at *
  generalize sizeAt b.data.toList = SZ at *
  generalize b.extract 1 9 = E1 at *
  generalize b.extract 9 17 = E2 at *
  generalize b.extract 17 19 = E3 at *
  have P1 : Hid _ := Q1
  have P2 : Hid _ := Q2
  have P3 : Hid _ := Q3
  clear Q1 Q2 Q3
  have d6 : IntKind.i64.wrap (SZ : Int) = (SZ : Int) := by rw [IntKind.wrap_i64]; omega
  have d7 : IntKind.i64.wrap (20 + (SZ : Int)) = 20 + (SZ : Int) := by rw [IntKind.wrap_i64]; omega
  have hcase : decide (2000000000000 < N) = true ∨ decide (2000000000000 < N) = false ∧ decide (1000000000000 < V) = true ∨ decide (2000000000000 < N) = false ∧ decide (1000000000000 < V) = false ∧ decide ((b.size : Int) < 20 + (SZ : Int)) = true := by
    by_cases h : 2000000000000 < N
    · exact Or.inl (decide_eq_true h)
    · by_cases h2 : 1000000000000 < V
      · exact Or.inr (Or.inl ⟨decide_eq_false h, decide_eq_true h2⟩)
      · exact Or.inr (Or.inr ⟨decide_eq_false h, decide_eq_false h2, decide_eq_true (by omega)⟩)
  clear hc
  go_enter Tryz.func9, Tryz.ntmps9
  go_wp2_with fail
  generalize w.alloc (.cells #[.int .i64 0, .string ⟨#[]⟩, .int .i64 0, .int .i64 0, .slice none 0 0] 25) = w0 at *
  have r0 : w0.cell? ⟨w.heap.size, 0, none⟩ = some (.int .i64 0) := R0.cellAt rfl
  have r1 : w0.cell? ⟨w.heap.size, 1, none⟩ = some (.string ⟨#[]⟩) := R0.cellAt rfl
  have r2 : w0.cell? ⟨w.heap.size, 2, none⟩ = some (.int .i64 0) := R0.cellAt rfl
  have r3 : w0.cell? ⟨w.heap.size, 3, none⟩ = some (.int .i64 0) := R0.cellAt rfl
  have r4 : w0.cell? ⟨w.heap.size, 4, none⟩ = some (.slice none 0 0) := R0.cellAt rfl
  have t0 : w0.frozen? ⟨w.heap.size, 0, none⟩ = false := R0.frozen 0
  have t1 : w0.frozen? ⟨w.heap.size, 1, none⟩ = false := R0.frozen 1
  have t2 : w0.frozen? ⟨w.heap.size, 2, none⟩ = false := R0.frozen 2
  have t3 : w0.frozen? ⟨w.heap.size, 3, none⟩ = false := R0.frozen 3
  have t4 : w0.frozen? ⟨w.heap.size, 4, none⟩ = false := R0.frozen 4
  have R0H := hide R0
  clear R0
  go_region_held3 (fun w' => True) (exact True.intro) (first | (go_at_call 31; (first | with_reducible refine (P1.out _).mono ?_ | with_reducible refine (P2.out _).mono ?_); rintro e w' ⟨rfl, rfl⟩))
  all_goals
    go_wp2_with fail
    with_reducible refine (P3.out _).mono ?_
    rintro e w' ⟨rfl, rfl⟩
    rcases hcase with hcase | ⟨hcase, hcase2⟩ | ⟨hcase, hcase2, hcase3⟩
    all_goals
      go_wp2
      have RF : RowIs ((((((w0).setCell ⟨w.heap.size, 0, none⟩ (.int .i64 0)).setCell ⟨w.heap.size, 1, none⟩ (.string ⟨#[]⟩)).setCell ⟨w.heap.size, 2, none⟩ (.int .i64 0)).setCell ⟨w.heap.size, 3, none⟩ (.int .i64 0)).setCell ⟨w.heap.size, 4, none⟩ (.slice none 0 0)) w.heap.size 25 [.int .i64 0, .string ⟨#[]⟩, .int .i64 0, .int .i64 0, .slice none 0 0] := ((((RowIs.set R0H.out 0 _).set 1 _).set 2 _).set 3 _).set 4 _
      exact bodyPost_ret (v := .tuple #[.agg ([.int .i64 0, .string ⟨#[]⟩, .int .i64 0, .int .i64 0, .slice none 0 0] : List Value).toArray, .bool false]) (results_row_tmp10 rfl _ _ w.heap.size [.int .i64 0, .string ⟨#[]⟩, .int .i64 0, .int .i64 0, .slice none 0 0] _ (by simp) (.bool false) (by simp) (RF.drew.range (by simp)) Tryz.underlying25 rfl (by kernel_rfl)) rfl ⟨HE.out _, Below.drew ((((((hbl).setCell (Nat.le_refl _) _).setCell (Nat.le_refl _) _).setCell (Nat.le_refl _) _).setCell (Nat.le_refl _) _).setCell (Nat.le_refl _) _)⟩

end Go.Proofs.YtgcbanmjfnnccaaGreat
