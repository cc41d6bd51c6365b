/-
  One region that draws its order, laid by program: escutcheonref1.Put, region 3.
-/
import Derived.Test.YtogfobmbmimpgaaCom5
import Derived.Test.YtogfobmbmimpgaaReg2
namespace Go.Proofs.Ytogfobmbmimpgaa
open Go.RowKit
set_option linter.unusedVariables false
set_option maxRecDepth 100000
set_option linter.unusedSimpArgs false

def rfputL : List (Option Tmp × Op) :=
  [(some 7, .fieldAddr 23 (.tmp 1) 0),
   (some 8, .load 3 (.tmp 7)),
   (some 9, .convert 3 5 (.tmp 8)),
   (some 10, .buildSlice 35 1 #[(0, (.tmp 9))]),
   (some 11, .convert 35 9 (.tmp 10)),
   (some 12, .fieldAddr 23 (.tmp 1) 3),
   (some 13, .load 3 (.tmp 12)),
   (some 14, .binOp .add 3 (.tmp 13) (.const (.int .i64 1000000000000)) 3),
   (some 15, .convert 3 44 (.tmp 14)),
   (some 16, .call { callee := .value (.func 24), args := #[(.tmp 15), (.const (.int .i64 8))], argTypes := #[44, 3] }),
   (some 17, .binOp .add 9 (.tmp 11) (.tmp 16) 9),
   (some 18, .fieldAddr 23 (.tmp 1) 4),
   (some 19, .load 3 (.tmp 18)),
   (some 20, .convert 3 44 (.tmp 19)),
   (some 21, .call { callee := .value (.func 24), args := #[(.tmp 20), (.const (.int .i64 8))], argTypes := #[44, 3] }),
   (some 22, .binOp .add 9 (.tmp 17) (.tmp 21) 9),
   (some 23, .fieldAddr 23 (.tmp 1) 1),
   (some 24, .load 9 (.tmp 23)),
   (some 25, .call { callee := .builtin .len, args := #[(.tmp 24)], argTypes := #[9] }),
   (some 26, .convert 3 5 (.tmp 25)),
   (some 27, .buildSlice 35 1 #[(0, (.tmp 26))]),
   (some 28, .convert 35 9 (.tmp 27)),
   (some 29, .binOp .add 9 (.tmp 22) (.tmp 28) 9),
   (some 30, .fieldAddr 23 (.tmp 1) 1),
   (some 31, .load 9 (.tmp 30)),
   (some 32, .binOp .add 9 (.tmp 29) (.tmp 31) 9),
   (some 33, .fieldAddr 23 (.tmp 1) 2),
   (some 34, .load 9 (.tmp 33)),
   (some 35, .binOp .add 9 (.tmp 32) (.tmp 34) 9),
   (some 2, .assign (.tmp 35)),
   (some 3, .assign (.const (.bool true)))]
def rfputW : List (List Nat) :=
  [[],
   [0],
   [1],
   [2],
   [3],
   [],
   [5],
   [6],
   [7],
   [8],
   [4, 9],
   [],
   [11],
   [12],
   [9, 13],
   [10, 14],
   [],
   [16],
   [17],
   [18],
   [19],
   [20],
   [15, 21],
   [],
   [23],
   [22, 24],
   [],
   [26],
   [25, 27],
   [0, 1, 2, 3, 4, 5, 6, 7, 8, 9, 10, 11, 12, 13, 14, 15, 16, 17, 18, 19, 20, 21, 22, 23, 24, 25, 26, 27, 28],
   [0, 1, 2, 3, 4, 5, 6, 7, 8, 9, 10, 11, 12, 13, 14, 15, 16, 17, 18, 19, 20, 21, 22, 23, 24, 25, 26, 27, 28, 29]]

set_option maxHeartbeats 1000000 in
theorem rfput_region {id : Nat} {ops : Array Oper} {Q : Exit → Act → World → Prop} {a0 : Act} {w : World} (b : Nat) (op num ver N : Int) (key value s2 s3 : ByteArray) (hn1 : IntKind.i64.wrap (num + 1000000000000) = N) (hn2 : IntKind.u64.wrap N = N) (hv : IntKind.u64.wrap ver = ver) (z1 : key.size ≤ 60) (z2 : value.size ≤ 500) (z3 : s2.size ≤ 8) (z4 : s3.size ≤ 8) (hP2 : ∀ w, Calls Try.prog 24 #[.int .u64 N, .int .i64 8] w fun e w5 => e = .returned (.string s2) ∧ Below w.heap.size w w5) (hP3 : ∀ w, Calls Try.prog 24 #[.int .u64 ver, .int .i64 8] w fun e w5 => e = .returned (.string s3) ∧ Below w.heap.size w w5) (hok : regOk ops 36 = true) (hk : kinds ops = rfputL) (hL : waitsL ops = rfputW) (hsz : a0.tmps.size = 36) (h1 : a0.eval (.tmp 1) = .pointer (some ⟨b, 0, none⟩)) (hrow : RowIs w b 23 [.int .i64 op, .string key, .string value, .int .i64 num, .int .i64 ver])
    (hend : ∀ a w5, Below w.heap.size w w5 → a.tmps.size = 36 → a.defers = a0.defers → a.eval (.tmp 2) = .string ((((((str [byteOf op 0]) ++ s2) ++ s3) ++ (str [byteOf (key.size : Int) 0])) ++ key) ++ value) → a.eval (.tmp 3) = .bool true → Q .normal a w5) :
    (Code.region id ops true).wp Try.prog Q a0 w := by
  obtain ⟨F, hF⟩ : ∃ F : List (Value → World → Prop), F = [fun v _ => v = .pointer (some ⟨b, 0, none⟩),
    fun v _ => v = .int .i64 op,
    fun v _ => v = .int .u8 ((byteOf op 0).toNat : Int),
    fun v w => ∃ g, v = .slice (some ⟨g, 0, none⟩) 1 1 ∧ RowIs w g 5 [.int .u8 ((byteOf op 0).toNat : Int)],
    fun v _ => v = .string (str [byteOf op 0]),
    fun v _ => v = .pointer (some ⟨b, 3, none⟩),
    fun v _ => v = .int .i64 num,
    fun v _ => v = .int .i64 N,
    fun v _ => v = .int .u64 N,
    fun v _ => v = .string s2,
    fun v _ => v = .string ((str [byteOf op 0]) ++ s2),
    fun v _ => v = .pointer (some ⟨b, 4, none⟩),
    fun v _ => v = .int .i64 ver,
    fun v _ => v = .int .u64 ver,
    fun v _ => v = .string s3,
    fun v _ => v = .string (((str [byteOf op 0]) ++ s2) ++ s3),
    fun v _ => v = .pointer (some ⟨b, 1, none⟩),
    fun v _ => v = .string key,
    fun v _ => v = .int .i64 ((key).size : Int),
    fun v _ => v = .int .u8 ((byteOf (key.size : Int) 0).toNat : Int),
    fun v w => ∃ g, v = .slice (some ⟨g, 0, none⟩) 1 1 ∧ RowIs w g 5 [.int .u8 ((byteOf (key.size : Int) 0).toNat : Int)],
    fun v _ => v = .string (str [byteOf (key.size : Int) 0]),
    fun v _ => v = .string ((((str [byteOf op 0]) ++ s2) ++ s3) ++ (str [byteOf (key.size : Int) 0])),
    fun v _ => v = .pointer (some ⟨b, 1, none⟩),
    fun v _ => v = .string key,
    fun v _ => v = .string (((((str [byteOf op 0]) ++ s2) ++ s3) ++ (str [byteOf (key.size : Int) 0])) ++ key),
    fun v _ => v = .pointer (some ⟨b, 2, none⟩),
    fun v _ => v = .string value,
    fun v _ => v = .string ((((((str [byteOf op 0]) ++ s2) ++ s3) ++ (str [byteOf (key.size : Int) 0])) ++ key) ++ value),
    fun v _ => v = .string ((((((str [byteOf op 0]) ++ s2) ++ s3) ++ (str [byteOf (key.size : Int) 0])) ++ key) ++ value),
    fun v _ => v = .bool true] := ⟨_, rfl⟩
  obtain ⟨R, hRd⟩ : ∃ R : World → Prop, R = fun w5 => Below w.heap.size w w5 ∧ RowIs w5 b 23 [.int .i64 op, .string key, .string value, .int .i64 num, .int .i64 ver] := ⟨_, rfl⟩
  have st0 : StepP Try.prog Q rfputL rfputW F R a0 0 := by
    subst hF hRd
    intro o hd ho a w hR hout hJ
    exact st_v hd (run_field' (n := 0) ho ((hout 1 (by decide)).trans h1) Try.underlying23 rfl (by kernel_rfl) w) rfl
  have st1 : StepP Try.prog Q rfputL rfputW F R a0 1 := by
    subst hF hRd
    intro o hd ho a w hR hout hJ
    exact st_v hd (run_load1' ho (show a.eval (.tmp 7) = .pointer (some ⟨b, 0, none⟩) from hJ 0 (by decide)) Try.underlying3 rfl w (hR.2.cellAt rfl)) rfl
  have st2 : StepP Try.prog Q rfputL rfputW F R a0 2 := by
    subst hF hRd
    intro o hd ho a w hR hout hJ
    exact st_v hd (run_convI' ho (show a.eval (.tmp 8) = .int .i64 op from hJ 1 (by decide)) (by kernel_rfl) Try.underlying5 (u8_byte op) w) rfl
  have st3 : StepP Try.prog Q rfputL rfputW F R a0 3 := by
    subst hF hRd
    intro o hd ho a w hR hout hJ
    obtain ⟨i0, hi0, hz0, hz1, hz2⟩ := info_parts info8
    exact st_m hd (run_build1' ho (show a.eval (.tmp 9) = .int .u8 ((byteOf op 0).toNat : Int) from hJ 2 (by decide)) Try.underlying35 hi0 hz1 hz0 (fun cs => nofun) w) ((Below.refl _ _).alloc (Nat.le_refl _) _) ⟨w.heap.size, rfl, RowIs.new w _ _⟩
  have st4 : StepP Try.prog Q rfputL rfputW F R a0 4 := by
    subst hF hRd
    intro o hd ho a w hR hout hJ
    obtain ⟨g, hv, hr⟩ := hJ 3 (by decide)
    exact st_v hd (run_convert' ho hv (conv_one hr)) rfl
  have st5 : StepP Try.prog Q rfputL rfputW F R a0 5 := by
    subst hF hRd
    intro o hd ho a w hR hout hJ
    exact st_v hd (run_field' (n := 0) ho ((hout 1 (by decide)).trans h1) Try.underlying23 rfl (by kernel_rfl) w) rfl
  have st6 : StepP Try.prog Q rfputL rfputW F R a0 6 := by
    subst hF hRd
    intro o hd ho a w hR hout hJ
    exact st_v hd (run_load1' ho (show a.eval (.tmp 12) = .pointer (some ⟨b, 3, none⟩) from hJ 5 (by decide)) Try.underlying3 rfl w (hR.2.cellAt rfl)) rfl
  have st7 : StepP Try.prog Q rfputL rfputW F R a0 7 := by
    subst hF hRd
    intro o hd ho a w hR hout hJ
    have h5 := run_addI' ho (show a.eval (.tmp 13) = .int .i64 num from hJ 6 (by decide)) rfl Try.underlying3 w
    rw [hn1] at h5
    exact st_v hd h5 rfl
  have st8 : StepP Try.prog Q rfputL rfputW F R a0 8 := by
    subst hF hRd
    intro o hd ho a w hR hout hJ
    exact st_v hd (run_convI' ho (show a.eval (.tmp 14) = .int .i64 N from hJ 7 (by decide)) (by kernel_rfl) Try.underlying44 hn2 w) rfl
  have st9 : StepP Try.prog Q rfputL rfputW F R a0 9 := by
    subst hF hRd
    intro o hd ho a w hR hout hJ
    have q0 : a.eval (.tmp 15) = .int .u64 N := (show a.eval (.tmp 15) = .int .u64 N from hJ 8 (by decide))
    have q1 : a.eval (.const (.int .i64 8)) = .int .i64 8 := rfl
    exact st_c (vs := #[.int .u64 N, .int .i64 8]) hd ho (by simp only [List.map_toArray, List.map_cons, List.map_nil, q0, q1]) (by simp [go_sem]) ((hP2 w).mono fun e w5 hh => ⟨_, hh.1, hh.2, rfl⟩)
  have st10 : StepP Try.prog Q rfputL rfputW F R a0 10 := by
    subst hF hRd
    intro o hd ho a w hR hout hJ
    exact st_v hd (run_cat' ho (show a.eval (.tmp 11) = .string (str [byteOf op 0]) from hJ 4 (by decide)) (show a.eval (.tmp 16) = .string s2 from hJ 9 (by decide)) Try.underlying9 (by simp only [ByteArray.size_append, str_size, List.length_cons, List.length_nil]; omega) w) rfl
  have st11 : StepP Try.prog Q rfputL rfputW F R a0 11 := by
    subst hF hRd
    intro o hd ho a w hR hout hJ
    exact st_v hd (run_field' (n := 0) ho ((hout 1 (by decide)).trans h1) Try.underlying23 rfl (by kernel_rfl) w) rfl
  have st12 : StepP Try.prog Q rfputL rfputW F R a0 12 := by
    subst hF hRd
    intro o hd ho a w hR hout hJ
    exact st_v hd (run_load1' ho (show a.eval (.tmp 18) = .pointer (some ⟨b, 4, none⟩) from hJ 11 (by decide)) Try.underlying3 rfl w (hR.2.cellAt rfl)) rfl
  have st13 : StepP Try.prog Q rfputL rfputW F R a0 13 := by
    subst hF hRd
    intro o hd ho a w hR hout hJ
    exact st_v hd (run_convI' ho (show a.eval (.tmp 19) = .int .i64 ver from hJ 12 (by decide)) (by kernel_rfl) Try.underlying44 hv w) rfl
  have st14 : StepP Try.prog Q rfputL rfputW F R a0 14 := by
    subst hF hRd
    intro o hd ho a w hR hout hJ
    have q0 : a.eval (.tmp 20) = .int .u64 ver := (show a.eval (.tmp 20) = .int .u64 ver from hJ 13 (by decide))
    have q1 : a.eval (.const (.int .i64 8)) = .int .i64 8 := rfl
    exact st_c (vs := #[.int .u64 ver, .int .i64 8]) hd ho (by simp only [List.map_toArray, List.map_cons, List.map_nil, q0, q1]) (by simp [go_sem]) ((hP3 w).mono fun e w5 hh => ⟨_, hh.1, hh.2, rfl⟩)
  have st15 : StepP Try.prog Q rfputL rfputW F R a0 15 := by
    subst hF hRd
    intro o hd ho a w hR hout hJ
    exact st_v hd (run_cat' ho (show a.eval (.tmp 17) = .string ((str [byteOf op 0]) ++ s2) from hJ 10 (by decide)) (show a.eval (.tmp 21) = .string s3 from hJ 14 (by decide)) Try.underlying9 (by simp only [ByteArray.size_append, str_size, List.length_cons, List.length_nil]; omega) w) rfl
  have st16 : StepP Try.prog Q rfputL rfputW F R a0 16 := by
    subst hF hRd
    intro o hd ho a w hR hout hJ
    exact st_v hd (run_field' (n := 0) ho ((hout 1 (by decide)).trans h1) Try.underlying23 rfl (by kernel_rfl) w) rfl
  have st17 : StepP Try.prog Q rfputL rfputW F R a0 17 := by
    subst hF hRd
    intro o hd ho a w hR hout hJ
    exact st_v hd (run_load1' ho (show a.eval (.tmp 23) = .pointer (some ⟨b, 1, none⟩) from hJ 16 (by decide)) Try.underlying9 rfl w (hR.2.cellAt rfl)) rfl
  have st18 : StepP Try.prog Q rfputL rfputW F R a0 18 := by
    subst hF hRd
    intro o hd ho a w hR hout hJ
    exact st_v hd (run_lenS' ho (show a.eval (.tmp 24) = .string key from hJ 17 (by decide)) rfl Try.underlying9 w) rfl
  have st19 : StepP Try.prog Q rfputL rfputW F R a0 19 := by
    subst hF hRd
    intro o hd ho a w hR hout hJ
    exact st_v hd (run_convI' ho (show a.eval (.tmp 25) = .int .i64 ((key).size : Int) from hJ 18 (by decide)) (by kernel_rfl) Try.underlying5 (u8_byte _) w) rfl
  have st20 : StepP Try.prog Q rfputL rfputW F R a0 20 := by
    subst hF hRd
    intro o hd ho a w hR hout hJ
    obtain ⟨i0, hi0, hz0, hz1, hz2⟩ := info_parts info8
    exact st_m hd (run_build1' ho (show a.eval (.tmp 26) = .int .u8 ((byteOf (key.size : Int) 0).toNat : Int) from hJ 19 (by decide)) Try.underlying35 hi0 hz1 hz0 (fun cs => nofun) w) ((Below.refl _ _).alloc (Nat.le_refl _) _) ⟨w.heap.size, rfl, RowIs.new w _ _⟩
  have st21 : StepP Try.prog Q rfputL rfputW F R a0 21 := by
    subst hF hRd
    intro o hd ho a w hR hout hJ
    obtain ⟨g, hv, hr⟩ := hJ 20 (by decide)
    exact st_v hd (run_convert' ho hv (conv_one hr)) rfl
  have st22 : StepP Try.prog Q rfputL rfputW F R a0 22 := by
    subst hF hRd
    intro o hd ho a w hR hout hJ
    exact st_v hd (run_cat' ho (show a.eval (.tmp 22) = .string (((str [byteOf op 0]) ++ s2) ++ s3) from hJ 15 (by decide)) (show a.eval (.tmp 28) = .string (str [byteOf (key.size : Int) 0]) from hJ 21 (by decide)) Try.underlying9 (by simp only [ByteArray.size_append, str_size, List.length_cons, List.length_nil]; omega) w) rfl
  have st23 : StepP Try.prog Q rfputL rfputW F R a0 23 := by
    subst hF hRd
    intro o hd ho a w hR hout hJ
    exact st_v hd (run_field' (n := 0) ho ((hout 1 (by decide)).trans h1) Try.underlying23 rfl (by kernel_rfl) w) rfl
  have st24 : StepP Try.prog Q rfputL rfputW F R a0 24 := by
    subst hF hRd
    intro o hd ho a w hR hout hJ
    exact st_v hd (run_load1' ho (show a.eval (.tmp 30) = .pointer (some ⟨b, 1, none⟩) from hJ 23 (by decide)) Try.underlying9 rfl w (hR.2.cellAt rfl)) rfl
  have st25 : StepP Try.prog Q rfputL rfputW F R a0 25 := by
    subst hF hRd
    intro o hd ho a w hR hout hJ
    exact st_v hd (run_cat' ho (show a.eval (.tmp 29) = .string ((((str [byteOf op 0]) ++ s2) ++ s3) ++ (str [byteOf (key.size : Int) 0])) from hJ 22 (by decide)) (show a.eval (.tmp 31) = .string key from hJ 24 (by decide)) Try.underlying9 (by simp only [ByteArray.size_append, str_size, List.length_cons, List.length_nil]; omega) w) rfl
  have st26 : StepP Try.prog Q rfputL rfputW F R a0 26 := by
    subst hF hRd
    intro o hd ho a w hR hout hJ
    exact st_v hd (run_field' (n := 0) ho ((hout 1 (by decide)).trans h1) Try.underlying23 rfl (by kernel_rfl) w) rfl
  have st27 : StepP Try.prog Q rfputL rfputW F R a0 27 := by
    subst hF hRd
    intro o hd ho a w hR hout hJ
    exact st_v hd (run_load1' ho (show a.eval (.tmp 33) = .pointer (some ⟨b, 2, none⟩) from hJ 26 (by decide)) Try.underlying9 rfl w (hR.2.cellAt rfl)) rfl
  have st28 : StepP Try.prog Q rfputL rfputW F R a0 28 := by
    subst hF hRd
    intro o hd ho a w hR hout hJ
    exact st_v hd (run_cat' ho (show a.eval (.tmp 32) = .string (((((str [byteOf op 0]) ++ s2) ++ s3) ++ (str [byteOf (key.size : Int) 0])) ++ key) from hJ 25 (by decide)) (show a.eval (.tmp 34) = .string value from hJ 27 (by decide)) Try.underlying9 (by simp only [ByteArray.size_append, str_size, List.length_cons, List.length_nil]; omega) w) rfl
  have st29 : StepP Try.prog Q rfputL rfputW F R a0 29 := by
    subst hF hRd
    intro o hd ho a w hR hout hJ
    exact st_v hd (run_assign' ho (show a.eval (.tmp 35) = .string ((((((str [byteOf op 0]) ++ s2) ++ s3) ++ (str [byteOf (key.size : Int) 0])) ++ key) ++ value) from hJ 28 (by decide)) w) rfl
  have st30 : StepP Try.prog Q rfputL rfputW F R a0 30 := by
    subst hF hRd
    intro o hd ho a w hR hout hJ
    exact st_v hd (run_assign' ho rfl w) rfl
  refine wp_region_F rfputL rfputW F R (by kernel_rfl) hok hk hL (n := 31) rfl hsz ?_ ?_ ?_ ?_ ?_
  · subst hRd; exact ⟨(Below.refl _ _).drew, RowIs.drew hrow⟩
  · subst hRd; intro u u2 hu hb; exact ⟨hu.1.trans (hb.mono hu.1.size), RowIs.below hu.2 hb (RowIs.lt hu.2)⟩
  · subst hF; exact ⟨fun _ _ _ _ h => h, fun _ _ _ _ h => h, fun _ _ _ _ h => h, fun _ _ _ hb ⟨g, e, r⟩ => ⟨g, e, RowIs.below r hb (RowIs.lt r)⟩, fun _ _ _ _ h => h, fun _ _ _ _ h => h, fun _ _ _ _ h => h, fun _ _ _ _ h => h, fun _ _ _ _ h => h, fun _ _ _ _ h => h, fun _ _ _ _ h => h, fun _ _ _ _ h => h, fun _ _ _ _ h => h, fun _ _ _ _ h => h, fun _ _ _ _ h => h, fun _ _ _ _ h => h, fun _ _ _ _ h => h, fun _ _ _ _ h => h, fun _ _ _ _ h => h, fun _ _ _ _ h => h, fun _ _ _ hb ⟨g, e, r⟩ => ⟨g, e, RowIs.below r hb (RowIs.lt r)⟩, fun _ _ _ _ h => h, fun _ _ _ _ h => h, fun _ _ _ _ h => h, fun _ _ _ _ h => h, fun _ _ _ _ h => h, fun _ _ _ _ h => h, fun _ _ _ _ h => h, fun _ _ _ _ h => h, fun _ _ _ _ h => h, fun _ _ _ _ h => h, True.intro⟩
  · intro i hi
    match i, hi with
    | 0, _ => exact st0
    | 1, _ => exact st1
    | 2, _ => exact st2
    | 3, _ => exact st3
    | 4, _ => exact st4
    | 5, _ => exact st5
    | 6, _ => exact st6
    | 7, _ => exact st7
    | 8, _ => exact st8
    | 9, _ => exact st9
    | 10, _ => exact st10
    | 11, _ => exact st11
    | 12, _ => exact st12
    | 13, _ => exact st13
    | 14, _ => exact st14
    | 15, _ => exact st15
    | 16, _ => exact st16
    | 17, _ => exact st17
    | 18, _ => exact st18
    | 19, _ => exact st19
    | 20, _ => exact st20
    | 21, _ => exact st21
    | 22, _ => exact st22
    | 23, _ => exact st23
    | 24, _ => exact st24
    | 25, _ => exact st25
    | 26, _ => exact st26
    | 27, _ => exact st27
    | 28, _ => exact st28
    | 29, _ => exact st29
    | 30, _ => exact st30
    | k + 31, h => exact absurd h (by omega)
  · subst hF hRd
    intro a w5 hR hs hdf hout hJ
    exact hend a w5 hR.1 hs hdf (hJ 29 (by omega)) (hJ 30 (by omega))

end Go.Proofs.Ytogfobmbmimpgaa
