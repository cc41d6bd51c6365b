/-
  Parts of this proof, one behind the other: Opn2.
-/
import Derived.Test.YtjemklgfenciaaaGreatBun15
import Derived.Test.YtjemklgfenciaaaGreatBun13
import Derived.OpenShut
import Derived.Deep.Slices

/-
  Slices of users (a name and a secret each), and of what is done to users, that came in as arguments, opened.
-/
namespace Go.Proofs.YtjemklgfenciaaaGreat
open Go.ChangeShapes Go.WideShapes Go.RowKit
set_option linter.unusedVariables false
set_option maxRecDepth 100000
set_option linter.unusedSimpArgs false

theorem cellsUser : Tryz.prog.cellsOf 32 = 2 := by kernel_rfl
theorem cellsUop : Tryz.prog.cellsOf 57 = 3 := by kernel_rfl
theorem cellsIntU : Tryz.prog.cellsOf 3 = 1 := by kernel_rfl
def pairNone : ByteArray × ByteArray := (⟨#[]⟩, ⟨#[]⟩)
theorem pairs_open {H : Type} {enc : TypeId × Value → H} {W : World} {v : Value} {d : DataW H} {ps : List MemPlace} {base : Nat}
    (hv : Value.okWide Tryz.prog W .any base 22 v) (h : DataW.Trod enc Tryz.prog W 0 (fun _ => true) true 22 v d ps) :
    ∃ oa n cap X, v = .slice oa n cap ∧ n ≤ maxLen ∧ PairsAt W oa n X ∧ (∀ i, i < n → (X i).1.size ≤ maxLen ∧ (X i).2.size ≤ maxLen) ∧ (oa = none → cap = 0 ∧ n = 0) := by
  obtain ⟨oa, n, cap, rfl⟩ := okWide_slice Tryz.underlying22 hv
  obtain ⟨fuel, hf⟩ := h
  rcases Deep.open_slice Tryz.underlying22 hf with ⟨hcs, hx⟩ | ⟨a, len', cap', m, n', D, Pl, hcs, _, hl, hm, hmm, hx, hcell⟩
  · simp [Value.cells] at hcs
    obtain ⟨rfl, rfl, rfl⟩ := hcs
    exact ⟨none, 0, 0, fun _ => pairNone, rfl, by omega, fun i hi => absurd hi (by omega), fun i hi => absurd hi (by omega), fun _ => ⟨rfl, rfl⟩⟩
  · simp [Value.cells] at hcs
    obtain ⟨rfl, rfl, rfl⟩ := hcs
    simp only [if_true] at hmm
    have each : ∀ i, i < m → ∃ x : ByteArray × ByteArray, W.cell? ((a.add (i * 2)).add 0) = some (.string x.1) ∧ W.cell? ((a.add (i * 2)).add 1) = some (.string x.2) ∧ x.1.size ≤ maxLen ∧ x.2.size ≤ maxLen := by
      intro i hi
      obtain ⟨cs', h1, h2⟩ := hcell i hi
      rw [cellsUser] at h1
      obtain ⟨_, hlen, hc⟩ := World.cells?_some h1
      obtain ⟨xs, k, hk, hxy, _, hxl, hfl⟩ := DataW.trod_struct Tryz.underlying32 h2
      have hl2 : xs.length = 2 := hxl
      match xs, hl2, cs', hlen with
      | [y0, y1], _, [v0, v1], _ =>
        have g0 := hfl 0 _ rfl
        have g1 := hfl 1 _ rfl
        simp [strCellsOf] at g0 g1
        obtain ⟨s0, e0, _, w0⟩ := DataW.trod_string Tryz.underlying9 g0
        obtain ⟨s1, e1, _, w1⟩ := DataW.trod_string Tryz.underlying9 g1
        simp at e0 e1
        subst e0 e1
        exact ⟨(s0, s1), (hc 0 (by omega)), (hc 1 (by omega)), w0, w1⟩
    haveI : Inhabited (ByteArray × ByteArray) := ⟨pairNone⟩
    obtain ⟨X, hX⟩ := Deep.choose_lt each
    refine ⟨some a, n, cap, X, rfl, by omega, ?_, fun i hi => ⟨(hX i (by omega)).2.2.1, (hX i (by omega)).2.2.2⟩, fun h => by cases h⟩
    obtain ⟨b, off, spot⟩ := a
    intro i hi
    have hspot : spot = none := by
      have := (hX 0 (by omega)).1
      simpa [Addr.add] using World.cell?_spot this
    subst hspot
    obtain ⟨q0, q1, _⟩ := hX i (by omega)
    rw [Addr.add_mid, Addr.add_mid] at q0 q1
    exact ⟨b, off, rfl, q0, q1⟩

/-- Something that is done to users: its kind, when, whose. -/
structure Uop where
  kind : Int
  now : Int
  name : ByteArray
def Uop.cells (x : Uop) : List Value := [.int .i64 x.kind, .int .i64 x.now, .string x.name]
structure Uop.Wide (x : Uop) : Prop where
  kind : (Lit.int .i64 x.kind).wf = true
  now : (Lit.int .i64 x.now).wf = true
  name : x.name.size ≤ maxLen
def uopNone : Uop := ⟨0, 0, ⟨#[]⟩⟩
def UopsAt (w : World) (oa : Option Addr) (n : Nat) (X : Nat → Uop) : Prop := ∀ i, i < n → ∃ b o, oa = some ⟨b, o, none⟩ ∧ w.rangeAt b (o + i * 3) (X i).cells
theorem UopsAt.later {w w' : World} {oa : Option Addr} {n : Nat} {X : Nat → Uop} (h : UopsAt w oa n X) (hb : Below w.heap.size w w') : UopsAt w' oa n X := by
  intro i hi
  obtain ⟨b, o, ho, hc⟩ := h i hi
  refine ⟨b, o, ho, fun j v hj => ?_⟩
  have h1 := hc j v hj
  have hl : b < w.heap.size := World.block_lt_of_cell? w _ h1
  rw [hb.cell (p := ⟨b, o + i * 3 + j, none⟩) hl, h1]
theorem uops_open {H : Type} {enc : TypeId × Value → H} {W : World} {v : Value} {d : DataW H} {ps : List MemPlace} {base : Nat}
    (hv : Value.okWide Tryz.prog W .any base 23 v) (h : DataW.Trod enc Tryz.prog W 0 (fun _ => true) true 23 v d ps) :
    ∃ oa n cap X, v = .slice oa n cap ∧ n ≤ maxLen ∧ UopsAt W oa n X ∧ ∀ i, i < n → (X i).Wide := by
  obtain ⟨oa, n, cap, rfl⟩ := okWide_slice Tryz.underlying23 hv
  obtain ⟨fuel, hf⟩ := h
  rcases Deep.open_slice Tryz.underlying23 hf with ⟨hcs, hx⟩ | ⟨a, len', cap', m, n', D, Pl, hcs, _, hl, hm, hmm, hx, hcell⟩
  · simp [Value.cells] at hcs
    obtain ⟨rfl, rfl, rfl⟩ := hcs
    exact ⟨none, 0, 0, fun _ => uopNone, rfl, by omega, fun i hi => absurd hi (by omega), fun i hi => absurd hi (by omega)⟩
  · simp [Value.cells] at hcs
    obtain ⟨rfl, rfl, rfl⟩ := hcs
    simp only [if_true] at hmm
    have each : ∀ i, i < m → ∃ x : Uop, (∀ j u, x.cells[j]? = some u → W.cell? ((a.add (i * 3)).add j) = some u) ∧ x.Wide := by
      intro i hi
      obtain ⟨cs', h1, h2⟩ := hcell i hi
      rw [cellsUop] at h1
      obtain ⟨_, hlen, hc⟩ := World.cells?_some h1
      obtain ⟨xs, k, hk, hxy, _, hxl, hfl⟩ := DataW.trod_struct Tryz.underlying57 h2
      have hl3 : xs.length = 3 := hxl
      match xs, hl3, cs', hlen with
      | [y0, y1, y2], _, [v0, v1, v2], _ =>
        have g0 := hfl 0 _ rfl
        have g1 := hfl 1 _ rfl
        have g2 := hfl 2 _ rfl
        simp [cellsIntU, strCellsOf] at g0 g1 g2
        obtain ⟨n0, e0, _, w0⟩ := DataW.trod_int Tryz.underlying3 g0
        obtain ⟨n1, e1, _, w1⟩ := DataW.trod_int Tryz.underlying3 g1
        obtain ⟨s2, e2, _, w2⟩ := DataW.trod_string Tryz.underlying9 g2
        simp at e0 e1 e2
        subst e0 e1 e2
        refine ⟨⟨n0, n1, s2⟩, fun j u hj => ?_, ⟨w0, w1, w2⟩⟩
        have hj3 : j < 3 := (List.getElem?_eq_some_iff.1 hj).1
        rw [hc j hj3]
        exact hj
    haveI : Inhabited Uop := ⟨uopNone⟩
    obtain ⟨X, hX⟩ := Deep.choose_lt each
    refine ⟨some a, n, cap, X, rfl, by omega, ?_, fun i hi => (hX i (by omega)).2⟩
    obtain ⟨b, off, spot⟩ := a
    intro i hi
    have hspot : spot = none := by
      have := (hX 0 (by omega)).1 0 _ rfl
      simpa [Addr.add] using World.cell?_spot this
    subst hspot
    refine ⟨b, off, rfl, fun j u hj => ?_⟩
    have := (hX i (by omega)).1 j u hj
    rw [Addr.add_mid, Addr.add_mid] at this
    exact this

end Go.Proofs.YtjemklgfenciaaaGreat
