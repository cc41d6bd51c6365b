/-
  Parts of this proof, one behind the other: UsrK1.
-/
import Derived.Test.YtjemklgfenciaaaGreatBun19
import Derived.Test.YtjemklgfenciaaaGreatBun6
import Derived.Laws.LoneSync
import Derived.BigQuiet
import Derived.RegionTactic
import Derived.Deep.RegionHeld3

/-
  Package users: names, who may be, atomic values, find, lock.
-/
namespace Go.Proofs.YtjemklgfenciaaaGreat
open Go.RowKit
set_option linter.unusedVariables false
set_option maxRecDepth 100000
set_option linter.unusedSimpArgs false

theorem i64_loadU (a : Addr) (x : Int) (w : World) (hc : w.cell? a = some (.int .i64 x)) :
    Calls Tryz.prog 35 #[.pointer (some a)] w fun e w' => e = .returned (.int .i64 x) ∧ w = w' := by
  have hl := run_call_load (P := Tryz.prog) Tryz.func73 (by kernel_rfl) (by kernel_rfl) (by kernel_rfl) .i64 (by kernel_rfl) hc
  go_enter Tryz.func35, Tryz.ntmps35
  go_wp2
  go_ret
  exact ⟨rfl, rfl⟩
theorem i64_storeU (a : Addr) (x y : Int) (w : World) (hc : w.cell? a = some (.int .i64 x)) (hz : w.frozen? a = false) :
    Calls Tryz.prog 33 #[.pointer (some a), .int .i64 y] w fun e w' => e = .returned (.tuple #[]) ∧ w' = w.setCell a (.int .i64 y) := by
  have hl := run_call_store (P := Tryz.prog) Tryz.func71 (by kernel_rfl) (by kernel_rfl) (by kernel_rfl) (by kernel_rfl) (k := .i64) (y := y) hc hz
  go_enter Tryz.func33, Tryz.ntmps33
  go_wp2
  go_end0
  exact ⟨rfl, rfl⟩
theorem i64_addU (a : Addr) (x y : Int) (w : World) (hc : w.cell? a = some (.int .i64 x)) (hz : w.frozen? a = false) (h0 : -9223372036854775808 ≤ x + y) (h1 : x + y ≤ 9223372036854775807) :
    Calls Tryz.prog 31 #[.pointer (some a), .int .i64 y] w fun e w' => e = .returned (.int .i64 (x + y)) ∧ w' = w.setCell a (.int .i64 (x + y)) := by
  have hadd : (Op.intArith .add .i64 x y).run Tryz.prog w = .ok (.int .i64 (x + y)) w := by
    have e : IntKind.i64.wrap (x + y) = x + y := by rw [IntKind.wrap_i64]; omega
    go_simp
  have hl := run_call_add (P := Tryz.prog) Tryz.func68 (by kernel_rfl) (by kernel_rfl) (by kernel_rfl) .i64 (by kernel_rfl) hc hz hadd
  go_enter Tryz.func31, Tryz.ntmps31
  go_wp2
  go_ret
  exact ⟨rfl, rfl⟩
theorem bool_loadU (a : Addr) (x : Bool) (w : World) (hc : w.cell? a = some (.int .u32 (if x then 1 else 0))) :
    Calls Tryz.prog 34 #[.pointer (some a)] w fun e w' => e = .returned (.bool x) ∧ w = w' := by
  have hl := run_call_load (P := Tryz.prog) Tryz.func72 (by kernel_rfl) (by kernel_rfl) (by kernel_rfl) .u32 (by kernel_rfl) hc
  cases x <;>
  · go_enter Tryz.func34, Tryz.ntmps34
    go_wp2
    go_ret
    exact ⟨rfl, rfl⟩
theorem b32_U (w : World) : Calls Tryz.prog 92 #[.bool true] w fun e w' => e = .returned (.int .u32 1) ∧ w' = w := by
  go_enter Tryz.func92, Tryz.ntmps92
  go_wp2
  go_ret
  exact ⟨rfl, rfl⟩
theorem bool_storeU (a : Addr) (x : Int) (w : World) (hc : w.cell? a = some (.int .u32 x)) (hz : w.frozen? a = false) :
    Calls Tryz.prog 70 #[.pointer (some a), .bool true] w fun e w' => e = .returned (.tuple #[]) ∧ w' = w.drew.setCell a (.int .u32 1) := by
  have hl := run_call_store (P := Tryz.prog) (w := w.drew) Tryz.func91 (by kernel_rfl) (by kernel_rfl) (by kernel_rfl) (by kernel_rfl) (k := .u32) (y := 1) hc hz
  have PB : Hid _ := b32_U
  go_enter Tryz.func70, Tryz.ntmps70
  go_wp2_with fail
  go_region_with (first | (go_at_call 92; with_reducible refine (PB.out _).mono ?_; rintro e w' ⟨rfl, rfl⟩))
  all_goals
    go_wp2
    go_end0
    exact ⟨rfl, rfl⟩
theorem last_tickU (now : Int) (w : World) (hw : I64U now) : Calls Tryz.prog 69 #[.int .i64 now] w fun e w' => e = .returned (.int .i64 (min (now + 20) 9223372036854775807)) ∧ w' = w := by
  obtain ⟨h1, h2⟩ := hw
  by_cases h : 9223372036854775787 < now
  · have e : min (now + 20) 9223372036854775807 = 9223372036854775807 := by omega
    rw [e]
    go_enter Tryz.func69, Tryz.ntmps69
    go_wp2
    go_ret
    exact ⟨rfl, rfl⟩
  · have e : min (now + 20) 9223372036854775807 = now + 20 := by omega
    have ew : IntKind.i64.wrap (now + 20) = now + 20 := by rw [IntKind.wrap_i64]; omega
    rw [e]
    go_enter Tryz.func69, Tryz.ntmps69
    go_wp2
    go_ret
    exact ⟨rfl, rfl⟩
theorem strings_cloneU (s : ByteArray) (w : World) (hs : s.size ≤ 1000000) : Calls Tryz.prog 24 #[.string s] w fun e w' => e = .returned (.string s) ∧ Below w.heap.size w w' := by
  go_enter Tryz.func24, Tryz.ntmps24
  go_wp2_with fail
  refine (Tryz.stringslite_Clone s _ (by omega)).mono ?_
  rintro e w' ⟨rfl, b⟩
  go_wp2
  go_ret
  exact ⟨rfl, b⟩

theorem zeroAcc (w : World) : (zeroValue 65).run Tryz.prog w = .ok (.pointer none) w := by kernel_rfl
theorem lawU : Maps.Keyed Tryz.prog 9 := Maps.string_keyed Tryz.underlying9
section
variable {w : World} {p m nn : Nat} {D : DataW Unit} {blk : Nat → Nat} {B : List Usr}
theorem look_no (h : w.ownsMap Tryz.prog 9 RefB0 m nn D) {n : ByteArray} (hn : n.size ≤ maxLen) (hno : Maps.has D (keyB n) = false) :
    (Instr.lookup 62 (.map (some m)) (.string n) false).run Tryz.prog w = .ok (.pointer none) w := by
  obtain ⟨v, ps, hrun, hv⟩ := h.lookup lawU Tryz.underlying62 (z := .pointer none) (zeroAcc w) (zd := .nil) (zp := []) rfl (keyB_of hn)
  rw [Maps.atKey_of_not_has hno] at hv
  rw [refB_nil hv] at hrun
  exact hrun
theorem look_yes (h : w.ownsMap Tryz.prog 9 RefB0 m nn D) {n : ByteArray} (hn : n.size ≤ maxLen) {b : Nat} (hat : ∀ z, D.atKey (keyB n) z = .lit (.int .i64 (b : Int))) :
    (Instr.lookup 62 (.map (some m)) (.string n) false).run Tryz.prog w = .ok (.pointer (some ⟨b, 0, none⟩)) w := by
  obtain ⟨v, ps, hrun, hv⟩ := h.lookup lawU Tryz.underlying62 (z := .pointer none) (zeroAcc w) (zd := .nil) (zp := []) rfl (keyB_of hn)
  rw [hat] at hv
  rw [refB_at hv] at hrun
  exact hrun
theorem find_yes (h : StU w p m nn D blk B) {n : ByteArray} (hn : n.size ≤ maxLen) (hh : hasU B n = true) :
    Calls Tryz.prog 30 #[.pointer (some ⟨p, 0, none⟩), .string n] w fun e w' => e = .returned (.pointer (some ⟨blk (idxU B n), 0, none⟩)) ∧ w' = w := by
  have hl := look_yes h.mp hn (h.yes n hh)
  have hc := h.hd.cellAt (j := 0) rfl
  clear h
  go_enter Tryz.func30, Tryz.ntmps30
  go_wp2
  go_ret
  exact ⟨rfl, rfl⟩
theorem find_no (h : StU w p m nn D blk B) {n : ByteArray} (hn : n.size ≤ maxLen) (hh : hasU B n = false) :
    Calls Tryz.prog 30 #[.pointer (some ⟨p, 0, none⟩), .string n] w fun e w' => e = .returned (.pointer none) ∧ w' = w := by
  have hl := look_no h.mp hn (h.no n hh)
  have hc := h.hd.cellAt (j := 0) rfl
  clear h
  go_enter Tryz.func30, Tryz.ntmps30
  go_wp2
  go_ret
  exact ⟨rfl, rfl⟩
end
theorem find_nil (w : World) (n : ByteArray) : Calls Tryz.prog 30 #[.pointer none, .string n] w fun e w' => e = .returned (.pointer none) ∧ w' = w := by
  go_enter Tryz.func30, Tryz.ntmps30
  go_wp2
  go_ret
  exact ⟨rfl, rfl⟩
theorem lock_U (w : World) (b : Nat) (u : Usr) (now : Int) (hw : I64U now) (f : Int) (hr : RowIs w b 76 [.string u.secret, .int .i64 f, .int .u32 (if u.locked then 1 else 0), .int .i64 u.till]) :
    Calls Tryz.prog 32 #[.pointer (some ⟨b, 0, none⟩), .int .i64 now] w fun e w' => e = .returned (.tuple #[]) ∧ Touch (fun k => k = b) w w' ∧ RowIs w' b 76 [.string u.secret, .int .i64 0, .int .u32 1, .int .i64 (min (now + 20) 9223372036854775807)] := by
  have PT : Hid _ := fun w => last_tickU now w hw
  have hr0 := hr.drew
  have P1 : Hid _ := fun (_ : Unit) => i64_storeU ⟨b, 3, none⟩ u.till (min (now + 20) 9223372036854775807) w.drew (hr0.cellAt rfl) (hr0.frozen 3)
  have hr1 := (hr.set 3 (.int .i64 (min (now + 20) 9223372036854775807)))
  have P2 : Hid _ := fun (_ : Unit) => bool_storeU ⟨b, 2, none⟩ _ (World.drew _) (hr1.drew.cellAt rfl) (hr1.drew.frozen 2)
  have hr2 := hr1.set 2 (.int .u32 1)
  have P3 : Hid _ := fun (_ : Unit) => i64_storeU ⟨b, 1, none⟩ f 0 (World.drew (World.drew _)) (hr2.drew.drew.cellAt rfl) (hr2.drew.drew.frozen 1)
  have hr3 := (hr2.set 1 (.int .i64 0)).drew.drew
  have ht : Touch (fun k => k = b) w _ := ((((((Touch.refl (fun k => k = b) w)).set (p := ⟨b, 3, none⟩) (Or.inl rfl) (.int .i64 (min (now + 20) 9223372036854775807)))).set (p := ⟨b, 2, none⟩) (Or.inl rfl) (.int .u32 1)).set (p := ⟨b, 1, none⟩) (Or.inl rfl) (.int .i64 0)).drew.drew
  have HR : Hid _ := hr3
  have HT : Hid _ := ht
  clear hr hr0 hr1 hr2 hr3 ht
  generalize min (now + 20) 9223372036854775807 = T at *
  go_enter Tryz.func32, Tryz.ntmps32
  go_wp2_with fail
  go_region_with (first | (go_at_call 69; with_reducible refine (PT.out _).mono ?_; rintro e w' ⟨rfl, rfl⟩) | (go_at_call 33; with_reducible refine (P1.out ()).mono ?_; rintro e w' ⟨rfl, rfl⟩))
  all_goals
    go_wp2_with fail
    with_reducible refine (P2.out ()).mono ?_
    rintro e w' ⟨rfl, rfl⟩
    go_wp2_with fail
    with_reducible refine (P3.out ()).mono ?_
    rintro e w' ⟨rfl, rfl⟩
    go_wp2
    go_end0
    exact ⟨rfl, HT.out, HR.out⟩

end Go.Proofs.YtjemklgfenciaaaGreat
