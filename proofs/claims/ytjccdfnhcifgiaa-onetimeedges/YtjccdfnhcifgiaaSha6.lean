/-
  The contracts of package digest's padding and told.
-/
import Derived.Test.YtjccdfnhcifgiaaSha5
import Derived.Test.YtjccdfnhcifgiaaOct2
import Derived.Test.YtjccdfnhcifgiaaOct7
import Derived.Lib.AppendStr
namespace Go.Proofs.Ytjccdfnhcifgiaa
open Go.RowKit
set_option linter.unusedVariables false
set_option maxRecDepth 100000

/-- So many bytes 0. -/
def zeros8 (m : Nat) : List UInt8 := List.replicate m 0
theorem zeros8_len (m : Nat) : (zeros8 m).length = m := by simp [zeros8]
theorem owns_below {w w' : World} {base n size : Nat} {e : TypeId} {v : Value} {xs : List Value} (h : w.ownsRow base e size v n xs) (hb : Below w.heap.size w w') : w'.ownsRow base e size v n xs := by
  obtain ⟨h1, h2⟩ := h
  refine ⟨h1, ?_⟩
  rcases h2 with h2 | ⟨g, cap, cur, hv, hg, hh, r⟩
  · exact Or.inl h2
  · exact Or.inr ⟨g, cap, cur, hv, hg, by rw [hb.block g (Array.getElem?_eq_some_iff.1 hh).1]; exact hh, r⟩
theorem owns_block {w : World} {base n size : Nat} {e : TypeId} {v : Value} {xs : List Value} (h : w.ownsRow base e size v n xs) : ∀ k, v.ownBlock = some k → base ≤ k := by
  intro k hk
  rcases h.2 with ⟨rfl, _⟩ | ⟨g, cap, cur, rfl, hg, _⟩
  · cases hk
  · simp only [Value.ownBlock, Option.some.injEq] at hk; omega
/-- 'make([]byte, n, m)'. -/
theorem wpList_make8 {w : World} {ops : Array Oper} {rest : List Oper} {o : Oper} {a : Act} {Q : Exit → Act → World → Prop} (hg : o.guard = none) (l c : Operand) (ho : o.op = .makeSlice 30 l c)
    (L C : Int) (n m : Nat) (hl : a.eval l = .int .i64 L) (hc : a.eval c = .int .i64 C) (hL : L = (n : Int)) (hC : C = (m : Int)) (hnm : n ≤ m) (hm : m ≤ 140737488355328) (N : Nat) (hN : w.heap.size = N)
    (h : wpList Try.prog ops Q rest (a.put o.dst (.slice (some ⟨N, 0, none⟩) n m)) (w.alloc (.cells (cells8 (zeros8 m)).toArray 5))) : wpList Try.prog ops Q (o :: rest) a w := by
  subst hL hC hN
  obtain ⟨i0, hi, hz0, hz1, hz2⟩ := info_parts info8
  have hr := run_make (P := Try.prog) w 30 5 i0 (.int .u8 0) Try.underlying30 hi hz0 .i64 .i64 (n : Int) (m : Int) (by omega) (by omega) (by rw [hz2]; omega) (by omega)
  rw [hz1, Nat.mul_one, Int.toNat_natCast, Int.toNat_natCast] at hr
  have e : madeCells (Value.int .u8 0).cells m = (cells8 (zeros8 m)).toArray := by
    apply Array.toList_inj.1
    exact made8 m
  rw [e] at hr
  refine wpList_value hg (w' := w.alloc (.cells (cells8 (zeros8 m)).toArray 5)) ?_ h
  unfold execOp
  simp only [ho, hl, hc, Sem.run_bind, hr]
  rfl
/-- A row that is known whole, and lies from 'base' on, is owned. -/
theorem RowIs.owns {w : World} {g base n cap : Nat} {t : TypeId} {l : List Value} (h : RowIs w g t l) (hb : base ≤ g) (hc : l.length = cap) (hn : n ≤ cap) (hm : cap ≤ maxLen) : w.ownsRow base t 1 (.slice (some ⟨g, 0, none⟩) n cap) n (l.take n) := by
  refine ⟨by simp; omega, Or.inr ⟨g, cap, l.toArray, rfl, hb, h, hn, hm, by simpa using hc, by simp⟩⟩
theorem strCells_str (l : List UInt8) : Lib.strCells (str l) = cells8 l := by
  unfold Lib.strCells str cells8
  rfl

theorem padZ_lt (n : Nat) : padZ n < 64 := by unfold padZ; omega
theorem padZ_int (n : Nat) : (64 - ((n : Int) + 9) % 64) % 64 = (padZ n : Int) := by unfold padZ; omega

/-- The bytes of the first k words. -/
def toldTo (l : List Int) (k : Nat) : List UInt8 := ((l.take k).map fun v => putBig v 4).flatten
theorem toldTo_succ (l : List Int) (k : Nat) (h : k < l.length) : toldTo l (k + 1) = toldTo l k ++ putBig (l.getD k 0) 4 := by
  unfold toldTo
  rw [List.take_succ_eq_append_getElem h, List.getD_eq_getElem?_getD, List.getElem?_eq_getElem h, List.map_append, List.flatten_append]
  simp
theorem toldTo_len (l : List Int) (k : Nat) (h : k ≤ l.length) : (toldTo l k).length = 4 * k := by
  induction k with
  | zero => rfl
  | succ k ih => rw [toldTo_succ l k (by omega), List.length_append, ih (by omega), putBig4_len]; omega

end Go.Proofs.Ytjccdfnhcifgiaa
