/-
  The contract of the closure inside Copy.
-/
import Derived.Test.YtlhlpcfjoccgcaaSha10
namespace Go.Proofs.Ytlhlpcfjoccgcaa
open Go.RowKit
set_option linter.unusedVariables false
set_option maxRecDepth 100000

theorem cell_setCells_block {w : World} {b g o p : Nat} {vs : List Value} {x : Value} (h : w.cell? ⟨g, p, none⟩ = some x) (hn : g ≠ b) : (w.setCells b o vs).cell? ⟨g, p, none⟩ = some x :=
  (World.cell?_setCells_out b vs o w ⟨g, p, none⟩ (fun e _ => absurd e hn)).trans h
theorem range_setCells_block {w : World} {b g o p : Nat} {vs cs : List Value} (h : w.rangeAt g p cs) (hn : g ≠ b) : (w.setCells b o vs).rangeAt g p cs :=
  World.rangeAt_setCells_apart h _ _ _ (Or.inl hn)

theorem cell_nested {w : World} {c g p : Nat} {u0 u1 u2 u3 u4 u5 u6 u7 x : Value} (h : w.cell? ⟨g, p, none⟩ = some x) (hn : g ≠ c) : ((((((((w.setCell ⟨c, 67, none⟩ u0).setCell ⟨c, 68, none⟩ u1).setCell ⟨c, 69, none⟩ u2).setCell ⟨c, 70, none⟩ u3).setCell ⟨c, 71, none⟩ u4).setCell ⟨c, 72, none⟩ u5).setCell ⟨c, 73, none⟩ u6).setCell ⟨c, 74, none⟩ u7).cell? ⟨g, p, none⟩ = some x :=
  cell_setCells_block (o := 67) (vs := [u0, u1, u2, u3, u4, u5, u6, u7]) h hn
theorem range_nested {w : World} {c g p : Nat} {u0 u1 u2 u3 u4 u5 u6 u7 : Value} {cs : List Value} (h : w.rangeAt g p cs) (hn : g ≠ c) : ((((((((w.setCell ⟨c, 67, none⟩ u0).setCell ⟨c, 68, none⟩ u1).setCell ⟨c, 69, none⟩ u2).setCell ⟨c, 70, none⟩ u3).setCell ⟨c, 71, none⟩ u4).setCell ⟨c, 72, none⟩ u5).setCell ⟨c, 73, none⟩ u6).setCell ⟨c, 74, none⟩ u7).rangeAt g p cs :=
  range_setCells_block (o := 67) (vs := [u0, u1, u2, u3, u4, u5, u6, u7]) h hn

set_option maxRecDepth 100000 in
set_option maxHeartbeats 1000000 in
theorem dig_copyIn (b c pd pc : Nat) (kc : List Value) (x0 x1 x2 x3 x4 x5 x6 x7 : Int) (y0 y1 y2 y3 y4 y5 y6 y7 : Value) (w : World) (hbc : b ≠ c) (hdc : pd ≠ c) (hcc : pc ≠ c) (hkl : kc.length = 64) (hk1 : ∀ v ∈ kc, v.oneCell' = true)
    (h1 : w.cell? ⟨pd, 0, none⟩ = some (.pointer (some ⟨b, 0, none⟩))) (h2 : w.cell? ⟨pc, 0, none⟩ = some (.pointer (some ⟨c, 0, none⟩)))
    (h3 : w.rangeAt b 3 kc) (h4 : w.rangeAt b 67 (cells32 [x0, x1, x2, x3, x4, x5, x6, x7])) (h5 : w.there c 3 64) (h6 : w.rangeAt c 67 [y0, y1, y2, y3, y4, y5, y6, y7]) (h7 : ∀ j, w.frozen? ⟨c, j, none⟩ = false) :
    Calls Try.prog 72 #[.pointer (some ⟨pd, 0, none⟩), .pointer (some ⟨pc, 0, none⟩)] w fun e w' => e = .returned (.tuple #[]) ∧ w' = (w.drew.setCells c 3 kc).setCells c 67 (cells32 [x0, x1, x2, x3, x4, x5, x6, x7]) := by
  have hu := Try.underlying76
  have hi : (Try.prog.info? 76).map (·.size) = some kc.length := by rw [size64, hkl]
  have b0 : w.cell? ⟨b, 67, none⟩ = some (.int .u32 x0) := h4 0 _ rfl
  have b1 : w.cell? ⟨b, 68, none⟩ = some (.int .u32 x1) := h4 1 _ rfl
  have b2 : w.cell? ⟨b, 69, none⟩ = some (.int .u32 x2) := h4 2 _ rfl
  have b3 : w.cell? ⟨b, 70, none⟩ = some (.int .u32 x3) := h4 3 _ rfl
  have b4 : w.cell? ⟨b, 71, none⟩ = some (.int .u32 x4) := h4 4 _ rfl
  have b5 : w.cell? ⟨b, 72, none⟩ = some (.int .u32 x5) := h4 5 _ rfl
  have b6 : w.cell? ⟨b, 73, none⟩ = some (.int .u32 x6) := h4 6 _ rfl
  have b7 : w.cell? ⟨b, 74, none⟩ = some (.int .u32 x7) := h4 7 _ rfl
  have hd5 : w.drew.there c 3 64 := (World.there_drew _ _ _ _).2 h5
  have hr6 : (w.drew.setCells c 3 kc).rangeAt c 67 [y0, y1, y2, y3, y4, y5, y6, y7] := World.rangeAt_setCells_apart ((World.rangeAt_drew _ _ _ _).2 h6) _ _ _ (by omega)
  have e0 : (w.drew.setCells c 3 kc).cell? ⟨c, 67, none⟩ = some y0 := hr6 0 _ rfl
  have e1 : (w.drew.setCells c 3 kc).cell? ⟨c, 68, none⟩ = some y1 := hr6 1 _ rfl
  have e2 : (w.drew.setCells c 3 kc).cell? ⟨c, 69, none⟩ = some y2 := hr6 2 _ rfl
  have e3 : (w.drew.setCells c 3 kc).cell? ⟨c, 70, none⟩ = some y3 := hr6 3 _ rfl
  have e4 : (w.drew.setCells c 3 kc).cell? ⟨c, 71, none⟩ = some y4 := hr6 4 _ rfl
  have e5 : (w.drew.setCells c 3 kc).cell? ⟨c, 72, none⟩ = some y5 := hr6 5 _ rfl
  have e6 : (w.drew.setCells c 3 kc).cell? ⟨c, 73, none⟩ = some y6 := hr6 6 _ rfl
  have e7 : (w.drew.setCells c 3 kc).cell? ⟨c, 74, none⟩ = some y7 := hr6 7 _ rfl
  have z : ∀ j, (w.drew.setCells c 3 kc).frozen? ⟨c, j, none⟩ = false := fun j => by rw [World.frozen?_setCells]; exact h7 j
  clear h4 h6 hr6 h7
  go_enter Try.func72, Try.ntmps72
  go_region_held3 (fun w' => w'.cell? ⟨pd, 0, none⟩ = some (.pointer (some ⟨b, 0, none⟩)) ∧ w'.cell? ⟨pc, 0, none⟩ = some (.pointer (some ⟨c, 0, none⟩)) ∧ w'.rangeAt b 3 kc ∧ w'.cell? ⟨b, 67, none⟩ = some (.int .u32 x0) ∧ w'.cell? ⟨b, 68, none⟩ = some (.int .u32 x1) ∧ w'.cell? ⟨b, 69, none⟩ = some (.int .u32 x2) ∧ w'.cell? ⟨b, 70, none⟩ = some (.int .u32 x3) ∧ w'.cell? ⟨b, 71, none⟩ = some (.int .u32 x4) ∧ w'.cell? ⟨b, 72, none⟩ = some (.int .u32 x5) ∧ w'.cell? ⟨b, 73, none⟩ = some (.int .u32 x6) ∧ w'.cell? ⟨b, 74, none⟩ = some (.int .u32 x7)) ((go_split_ands; (refine ⟨?_, ?_, ?_, ?_, ?_, ?_, ?_, ?_, ?_, ?_, ?_⟩ <;> first | (with_reducible assumption) | (simp only [World.rangeAt_drew, World.cell?_drew]; with_reducible assumption) | (with_reducible exact range_setCells_block (by assumption) (by assumption)) | (with_reducible exact cell_setCells_block (by assumption) (by assumption)) | (with_reducible exact range_nested (by assumption) (by assumption)) | (with_reducible exact cell_nested (by assumption) (by assumption))))) (fail)
  go_wp2
  go_end0
  exact ⟨rfl, rfl⟩

end Go.Proofs.Ytlhlpcfjoccgcaa
