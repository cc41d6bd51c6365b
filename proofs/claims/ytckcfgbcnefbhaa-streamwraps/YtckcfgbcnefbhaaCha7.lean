/-
  The contract of package stream's Xor.
-/
import Derived.Test.YtckcfgbcnefbhaaCha6
import Derived.Test.YtckcfgbcnefbhaaBld1
import Derived.Laws.LoneSync
namespace Go.Proofs.Ytckcfgbcnefbhaa
open Go.RowKit
set_option linter.unusedVariables false
set_option maxRecDepth 100000

/-- An atomic.Uint32, one goroutine. -/
theorem u32_store (a : Addr) (x : Value) (y : Int) (w : World) (hc : w.cell? a = some x) (hz : w.frozen? a = false) :
    Calls Try.prog 23 #[.pointer (some a), .int .u32 y] w fun e w' => e = .returned (.tuple #[]) ∧ w' = w.setCell a (.int .u32 y) := by
  have hl := run_call_store (P := Try.prog) Try.func35 (by kernel_rfl) (by kernel_rfl) (by kernel_rfl) (by kernel_rfl) (k := .u32) (y := y) hc hz
  go_enter Try.func23, Try.ntmps23
  go_wp2
  go_end0
  exact ⟨rfl, rfl⟩
theorem u32_add (a : Addr) (x y : Int) (w : World) (hc : w.cell? a = some (.int .u32 x)) (hz : w.frozen? a = false) :
    Calls Try.prog 26 #[.pointer (some a), .int .u32 y] w fun e w' => e = .returned (.int .u32 (addI x y)) ∧ w' = w.setCell a (.int .u32 (addI x y)) := by
  have hadd : (Op.intArith .add .u32 x y).run Try.prog w = .ok (.int .u32 (addI x y)) w := by
    have e : IntKind.u32.wrap (x + y) = addI x y := by unfold addI; rw [IntKind.wrap_u32]
    go_simp
  have hl := run_call_add (P := Try.prog) Try.func38 (by kernel_rfl) (by kernel_rfl) (by kernel_rfl) .u32 (by kernel_rfl) hc hz hadd
  go_enter Try.func26, Try.ntmps26
  go_wp2
  go_ret
  exact ⟨rfl, rfl⟩

theorem builder_kept {T e : TypeId} {B b : Nat} {p : Value} {bs : List Value} {w w' : World} (h : Lib.BuilderAt T e B b p bs w) (hb : Below w.heap.size w w') : Lib.BuilderAt T e B b p bs w' := by
  have hlt := h.lt
  obtain ⟨hB, v, hk, hown, hne⟩ := h
  exact ⟨hB, v, (hb.block b hlt).trans hk, owns_below hown hb, hne⟩
theorem builder_set {T e : TypeId} {B b : Nat} {p : Value} {bs : List Value} {w : World} (h : Lib.BuilderAt T e B b p bs w) {a : Addr} (ha : a.block < B) (v : Value) : Lib.BuilderAt T e B b p bs (w.setCell a v) := by
  obtain ⟨hB, x, hk, hown, hne⟩ := h
  refine ⟨hB, x, ?_, ?_, hne⟩
  · rw [Below.heap_setCell _ _ _ _ (by omega)]; exact hk
  · obtain ⟨h1, h2⟩ := hown
    refine ⟨h1, ?_⟩
    rcases h2 with h2 | ⟨g, cap, cur, hv, hg, hh, r⟩
    · exact Or.inl h2
    · exact Or.inr ⟨g, cap, cur, hv, hg, by rw [Below.heap_setCell _ _ _ _ (by omega)]; exact hh, r⟩
/-- How many bytes the builder in block n holds. -/
def bLen (w : World) (n : Nat) : Nat := match w.cell? ⟨n, 1, none⟩ with
  | some (.slice _ l _) => l
  | _ => 0
theorem bLen_of {T e : TypeId} {B b : Nat} {p : Value} {bs : List Value} {w : World} (h : Lib.BuilderAt T e B b p bs w) : bLen w b = bs.length := by
  obtain ⟨hB, v, hk, hown, hne⟩ := h
  have hc : w.cell? ⟨b, 1, none⟩ = some v := by rw [Lib.cell_of_heap hk]; rfl
  unfold bLen
  rw [hc]
  rcases hown.2 with ⟨rfl, h0⟩ | ⟨g, cap, cur, rfl, _⟩
  · exact h0.symm
  · rfl
theorem drop_str (b : ByteArray) (n : Nat) (x : Int) (hx : x = (n : Int)) (hn : n ≤ b.size) (w : World) :
    (Instr.slice 9 (.string b) (some (.int .i64 x)) none none).run Try.prog w = .ok (.string (str (b.data.toList.drop n))) w := by
  subst hx
  rw [run_slice_string_l (P := Try.prog) w 9 b Try.underlying9 .i64 (n : Int) (by omega) (by omega)]
  congr 2
  rw [Int.toNat_natCast]
  unfold str
  apply ByteArray.ext
  rw [ByteArray.data_extract]
  apply Array.toList_inj.1
  rw [Array.toList_extract]
  simp [List.take_of_length_le]

end Go.Proofs.Ytckcfgbcnefbhaa
