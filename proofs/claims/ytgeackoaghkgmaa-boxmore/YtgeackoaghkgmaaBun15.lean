/-
  Parts of this proof, one behind the other: Sha5, RefA.
-/
import Derived.Test.YtgeackoaghkgmaaBun10
import Derived.Deep.RegionHeld3
import Derived.RegionTactic
import Derived.Test.YtgeackoaghkgmaaBun5

/-
  The contract of package digest's compressed.
-/
namespace Go.Proofs.Ytgeackoaghkgmaa
open Go.RowKit
set_option linter.unusedVariables false
set_option maxRecDepth 100000

theorem mix_at (p o : List Int) (j : Nat) (hp : p.length = o.length) (hj : j < o.length) : (p.take j ++ o.drop j).getD j 0 = o.getD j 0 := by
  rw [List.getD_eq_getElem?_getD, List.getD_eq_getElem?_getD, List.getElem?_append_right (by simp; omega)]
  simp only [List.length_take, List.getElem?_drop]
  rw [show min j p.length = j from by omega]
  simp
theorem mix_set (p o : List Int) (j : Nat) (v : Int) (hp : p.length = o.length) (hj : j < o.length) (hv : p.getD j 0 = v) : (p.take j ++ o.drop j).set j v = p.take (j + 1) ++ o.drop (j + 1) := by
  have hpv : p[j]'(by omega) = v := by rw [← hv, List.getD_eq_getElem?_getD, List.getElem?_eq_getElem (by omega)]; rfl
  rw [List.set_append_right _ _ (by simp; omega), List.take_succ_eq_append_getElem (by omega), List.drop_eq_getElem_cons hj, hpv]
  simp only [List.length_take, List.append_assoc]
  rw [show j - min j p.length = 0 from by omega]
  rfl
theorem mix_len (p o : List Int) (j : Nat) (hp : p.length = o.length) (hj : j ≤ o.length) : (p.take j ++ o.drop j).length = o.length := by simp; omega
theorem run_index_arr {P : Program} {t e : TypeId} {n : Nat} {k : IntKind} (cs : Array Value) (i : Int) (j : Nat) (v : Value) (w : World) (hi : i = j) (hj : j < n) (hv : cs[j]? = some v) (ht : P.underlying t = some (.array n e)) (hu : P.underlying e = some (.int k)) (hs : (P.info? e).map (·.size) = some 1) :
    (Instr.index t (.agg cs) (.int .i64 i)).run P w = .ok v w := by
  subst hi
  have hagg : (isAgg e).run P w = .ok false w := by
    unfold isAgg
    rw [Sem.run_bind, run_underlying hu w]
    rfl
  have h0 : (0 : Int) ≤ (j : Int) ∧ (j : Int) < (n : Int) := by omega
  simp only [Instr.index, asIntOf, Sem.run_bind, Sem.run_pure, Result.andThen_ok, run_underlying ht w]
  rw [if_pos h0]
  simp only [Sem.run_bind, run_sizeOf hs, Result.andThen_ok, part, hagg, Int.toNat_natCast, Nat.mul_one, hv]
  rfl
end Go.Proofs.Ytgeackoaghkgmaa

/-
  The rounds of the reference's Sum (the loop in block 6).
-/
namespace Go.Proofs.Ytgeackoaghkgmaa
open Go.RowKit
set_option linter.unusedVariables false
set_option maxRecDepth 100000

/-- The body of the block of that number. -/
def blkOf (k : Nat) : Code → Option Code
  | .block j c => if j = k then some c else blkOf k c
  | .seq a b => match blkOf k a with
    | some c => some c
    | none => blkOf k b
  | .loop c => blkOf k c
  | .scope c => blkOf k c
  | .cond _ a b => match blkOf k a with
    | some c => some c
    | none => blkOf k b
  | _ => none

theorem ch_ref {e f g : Int} (he : W32 e) (hf : W32 f) (hg : W32 g) : bits BinOp.xor IntKind.u32 (bits BinOp.and IntKind.u32 e f) (bits BinOp.and IntKind.u32 (4294967295 - e) g) = chI e f g := by
  rw [band_eq he hf, band_eq (not_w he) hg, bxor_eq (andI_w he) (andI_w (not_w he))]; rfl
theorem maj_ref {a b c : Int} (ha : W32 a) (hb : W32 b) (hc : W32 c) : bits BinOp.xor IntKind.u32 (bits BinOp.xor IntKind.u32 (bits BinOp.and IntKind.u32 a b) (bits BinOp.and IntKind.u32 a c)) (bits BinOp.and IntKind.u32 b c) = majI a b c := by
  rw [band_eq ha hb, band_eq ha hc, band_eq hb hc, bxor_eq (andI_w ha) (andI_w ha), bxor_eq (xorI_w (andI_w ha) (andI_w ha)) (andI_w hb)]; rfl
theorem bs1_ref {x : Int} (h : W32 x) : bits BinOp.xor IntKind.u32 (bits BinOp.xor IntKind.u32 (rotl x (-6)) (rotl x (-11))) (rotl x (-25)) = bs1 x := by
  rw [bxor_eq (rotl_w _ h) (rotl_w _ h), bxor_eq (xorI_w (rotl_w _ h) (rotl_w _ h)) (rotl_w _ h)]; rfl
theorem bs0_ref {x : Int} (h : W32 x) : bits BinOp.xor IntKind.u32 (bits BinOp.xor IntKind.u32 (rotl x (-2)) (rotl x (-13))) (rotl x (-22)) = bs0 x := by
  rw [bxor_eq (rotl_w _ h) (rotl_w _ h), bxor_eq (xorI_w (rotl_w _ h) (rotl_w _ h)) (rotl_w _ h)]; rfl

end Go.Proofs.Ytgeackoaghkgmaa
