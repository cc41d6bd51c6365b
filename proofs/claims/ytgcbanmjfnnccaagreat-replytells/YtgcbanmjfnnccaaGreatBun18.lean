/-
  Parts of this proof, one behind the other: Opn0.
-/
import Derived.Test.YtgcbanmjfnnccaaGreatBun13
import Derived.Test.YtgcbanmjfnnccaaGreatBun14
import Derived.OpenShut

/-
  A command, and a reply, that came in as an argument, opened.
-/
namespace Go.Proofs.YtgcbanmjfnnccaaGreat
open Go.ChangeShapes Go.WideShapes Go.RowKit
set_option linter.unusedVariables false
set_option maxRecDepth 100000
set_option linter.unusedSimpArgs false

theorem okWide_struct10 {P : Program} {w : World} {r : Reach} {base : Nat} {t : TypeId} {v : Value} {fs : Array Field} (ht : P.underlying t = some (.struct fs)) (h : Value.okWide P w r base t v) : ∃ cs, v = .agg cs ∧ cs.size = P.cellsOf t := by
  simp only [Value.okWide, ht] at h
  obtain ⟨cs, h1, h2, _⟩ := h
  exact ⟨cs, h1, h2⟩
abbrev I64 (x : Int) : Prop := -9223372036854775808 ≤ x ∧ x ≤ 9223372036854775807
def Cmd.Wide (c : Cmd) : Prop := I64 c.op ∧ c.key.size ≤ maxLen ∧ c.value.size ≤ maxLen ∧ I64 c.num ∧ I64 c.ver
theorem cellsInt : Tryz.prog.cellsOf 3 = 1 := by kernel_rfl
theorem cellsErrno : Tryz.prog.cellsOf 22 = 1 := by kernel_rfl
theorem cellsStrs : Tryz.prog.cellsOf 23 = 1 := by kernel_rfl
theorem cellsCmd : Tryz.prog.cellsOf 47 = 5 := by kernel_rfl
theorem cellsRep : Tryz.prog.cellsOf 25 = 5 := by kernel_rfl
theorem arr5 {α : Type} {cs : Array α} (h : cs.size = 5) : ∃ a b c d e, cs = #[a, b, c, d, e] := by
  obtain ⟨l⟩ := cs
  match l, h with
  | [a, b, c, d, e], _ => exact ⟨a, b, c, d, e, rfl⟩

theorem cmd_open {H : Type} {enc : TypeId × Value → H} {W : World} {v : Value} {d : DataW H} {ps : List MemPlace} {base : Nat}
    (hv : Value.okWide Tryz.prog W .any base 47 v) (h : DataW.Trod enc Tryz.prog W 0 (fun _ => true) true 47 v d ps) :
    ∃ c : Cmd, v = c.v ∧ c.Wide := by
  obtain ⟨cs, rfl, hsz⟩ := okWide_struct10 Tryz.underlying47 hv
  obtain ⟨c0, c1, c2, c3, c4, rfl⟩ := arr5 (hsz.trans cellsCmd)
  obtain ⟨fuel, hf⟩ := h
  obtain ⟨xs, n, _, _, _, hl, hi⟩ := DataW.trod_struct Tryz.underlying47 hf
  have hl5 : xs.length = 5 := hl
  obtain ⟨y0, y1, y2, y3, y4, hxs⟩ : ∃ a b c d e, xs = [a, b, c, d, e] := by
    match xs, hl5 with
    | [a, b, c, d, e], _ => exact ⟨a, b, c, d, e, rfl⟩
  subst hxs
  have h0 := hi 0 _ rfl
  have h1 := hi 1 _ rfl
  have h2 := hi 2 _ rfl
  have h3 := hi 3 _ rfl
  have h4 := hi 4 _ rfl
  simp [Value.cells, cellsInt, strCellsOf] at h0 h1 h2 h3 h4
  obtain ⟨n0, e0, _, w0⟩ := DataW.trod_int Tryz.underlying3 h0
  obtain ⟨s1, e1, _, w1⟩ := DataW.trod_string Tryz.underlying9 h1
  obtain ⟨s2, e2, _, w2⟩ := DataW.trod_string Tryz.underlying9 h2
  obtain ⟨n3, e3, _, w3⟩ := DataW.trod_int Tryz.underlying3 h3
  obtain ⟨n4, e4, _, w4⟩ := DataW.trod_int Tryz.underlying3 h4
  simp at e0 e1 e2 e3 e4
  subst e0 e1 e2 e3 e4
  have b0 := bounds_i64 w0
  have b3 := bounds_i64 w3
  have b4 := bounds_i64 w4
  exact ⟨⟨n0, s1, s2, n3, n4⟩, rfl, b0, w1, w2, b3, b4⟩

theorem rep_open {H : Type} {enc : TypeId × Value → H} {W : World} {v : Value} {d : DataW H} {ps : List MemPlace} {base : Nat}
    (hv : Value.okWide Tryz.prog W .any base 25 v) (h : DataW.Trod enc Tryz.prog W 0 (fun _ => true) true 25 v d ps) :
    ∃ (e : Int) (s : ByteArray) (nu ve : Int) (oa : Option Addr) (n cap : Nat) (L : Nat → List UInt8), v = .agg #[.int .i64 e, .string s, .int .i64 nu, .int .i64 ve, .slice oa n cap] ∧ I64 e ∧ s.size ≤ maxLen ∧ I64 nu ∧ I64 ve ∧ n ≤ maxLen ∧ (∀ i, i < n → (L i).length ≤ maxLen) ∧ StrsAt W oa n L ∧ (oa = none → n = 0 ∧ cap = 0) := by
  obtain ⟨cs, rfl, hsz⟩ := okWide_struct10 Tryz.underlying25 hv
  obtain ⟨c0, c1, c2, c3, c4, rfl⟩ := arr5 (hsz.trans cellsRep)
  obtain ⟨fuel, hf⟩ := h
  obtain ⟨xs, n, _, _, _, hl, hi⟩ := DataW.trod_struct Tryz.underlying25 hf
  have hl5 : xs.length = 5 := hl
  obtain ⟨y0, y1, y2, y3, y4, hxs⟩ : ∃ a b c d e, xs = [a, b, c, d, e] := by
    match xs, hl5 with
    | [a, b, c, d, e], _ => exact ⟨a, b, c, d, e, rfl⟩
  subst hxs
  have h0 := hi 0 _ rfl
  have h1 := hi 1 _ rfl
  have h2 := hi 2 _ rfl
  have h3 := hi 3 _ rfl
  have h4 := hi 4 _ rfl
  simp [Value.cells, cellsInt, strCellsOf, cellsErrno, cellsStrs] at h0 h1 h2 h3 h4
  obtain ⟨n0, e0, _, w0⟩ := DataW.trod_int Tryz.underlying22 h0
  obtain ⟨s1, e1, _, w1⟩ := DataW.trod_string Tryz.underlying9 h1
  obtain ⟨n2, e2, _, w2⟩ := DataW.trod_int Tryz.underlying3 h2
  obtain ⟨n3, e3, _, w3⟩ := DataW.trod_int Tryz.underlying3 h3
  simp at e0 e1 e2 e3
  subst e0 e1 e2 e3
  have b0 := bounds_i64 w0
  have b2 := bounds_i64 w2
  have b3 := bounds_i64 w3
  rcases Deep.open_strs Tryz.underlying23 Tryz.underlying9 strCellsOf h4 with ⟨hcs, hx⟩ | ⟨a, len', cap', m, Sx, hcs, _, hl, hm, hmm, hx, hcell⟩
  · simp at hcs
    subst hcs
    exact ⟨n0, s1, n2, n3, none, 0, 0, fun _ => [], rfl, b0, w1, b2, b3, by omega, fun i hi => absurd hi (by omega), fun i hi => absurd hi (by omega), fun _ => ⟨rfl, rfl⟩⟩
  · simp at hcs
    subst hcs
    simp only [if_true] at hmm
    refine ⟨n0, s1, n2, n3, some a, len', cap', fun i => (Sx i).data.toList, rfl, b0, w1, b2, b3, by omega, fun i hi => ?_, ?_, fun h => by cases h⟩
    · have := (hcell i (by omega)).2
      simpa using this
    · obtain ⟨b, off, spot⟩ := a
      intro i hi
      have hc := (hcell i (by omega)).1
      have hspot : spot = none := by simpa [Addr.add] using World.cell?_spot (hcell 0 (by omega)).1
      subst hspot
      refine ⟨b, off, rfl, ?_⟩
      rw [Addr.add_mid] at hc
      rw [hc, str_back]

end Go.Proofs.YtgcbanmjfnnccaaGreat
