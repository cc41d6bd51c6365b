/-
  The rounds of the reference's Sum (the loop in block 6).
-/
import Derived.Test.YtckcfgbcnefbhaaSha5
import Derived.Test.YtckcfgbcnefbhaaOct5
import Derived.Test.YtckcfgbcnefbhaaSha3
import Derived.Deep.RegionHeld3
namespace Go.Proofs.Ytckcfgbcnefbhaa
open Go.RowKit
set_option linter.unusedVariables false
set_option maxRecDepth 100000

/-- The body of the block of that number. -/
def blkOf (k : Nat) : Code → Option Code
  | .block j c => if j = k then some c else blkOf k c
  | .seq a b => match blkOf k a with
    | some c => some c
    | none => blkOf k b
  | .loop c => blkOf k c
  | .scope c => blkOf k c
  | .cond _ a b => match blkOf k a with
    | some c => some c
    | none => blkOf k b
  | _ => none

theorem ch_ref {e f g : Int} (he : W32 e) (hf : W32 f) (hg : W32 g) : bits BinOp.xor IntKind.u32 (bits BinOp.and IntKind.u32 e f) (bits BinOp.and IntKind.u32 (4294967295 - e) g) = chI e f g := by
  rw [band_eq he hf, band_eq (not_w he) hg, bxor_eq (andI_w he) (andI_w (not_w he))]; rfl
theorem maj_ref {a b c : Int} (ha : W32 a) (hb : W32 b) (hc : W32 c) : bits BinOp.xor IntKind.u32 (bits BinOp.xor IntKind.u32 (bits BinOp.and IntKind.u32 a b) (bits BinOp.and IntKind.u32 a c)) (bits BinOp.and IntKind.u32 b c) = majI a b c := by
  rw [band_eq ha hb, band_eq ha hc, band_eq hb hc, bxor_eq (andI_w ha) (andI_w ha), bxor_eq (xorI_w (andI_w ha) (andI_w ha)) (andI_w hb)]; rfl
theorem bs1_ref {x : Int} (h : W32 x) : bits BinOp.xor IntKind.u32 (bits BinOp.xor IntKind.u32 (rotl x (-6)) (rotl x (-11))) (rotl x (-25)) = bs1 x := by
  rw [bxor_eq (rotl_w _ h) (rotl_w _ h), bxor_eq (xorI_w (rotl_w _ h) (rotl_w _ h)) (rotl_w _ h)]; rfl
theorem bs0_ref {x : Int} (h : W32 x) : bits BinOp.xor IntKind.u32 (bits BinOp.xor IntKind.u32 (rotl x (-2)) (rotl x (-13))) (rotl x (-22)) = bs0 x := by
  rw [bxor_eq (rotl_w _ h) (rotl_w _ h), bxor_eq (xorI_w (rotl_w _ h) (rotl_w _ h)) (rotl_w _ h)]; rfl

end Go.Proofs.Ytckcfgbcnefbhaa
