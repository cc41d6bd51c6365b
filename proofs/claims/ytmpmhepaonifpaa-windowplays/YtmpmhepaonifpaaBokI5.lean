/-
  The book's lists of whole numbers: growInts lays more behind each of them.
-/
import Derived.Test.YtmpmhepaonifpaaBokI4
namespace Go.Proofs.Ytmpmhepaonifpaa
open Go.RowKit
set_option linter.unusedVariables false
set_option maxRecDepth 100000
set_option linter.unusedSimpArgs false

theorem infoSl : (Try.prog.info? 22).map (fun i => (i.zero, i.size, i.bytes)) = some (some (.slice none 0 0), 1, 24) := by kernel_rfl

/-- What growInts has told of the first k lists: each lies in the old one's block, or in a new one. -/
structure GrownI (w wr : World) (vs : List Value) (ns : List Nat) (k : Nat) (out : Value) (os : List Value) : Prop where
  len : os.length = k
  own : wr.ownsRow w.heap.size 22 1 out k os
  seen : ∀ (j : Nat) (o : Value) (n : Nat), os[j]? = some o → ns[j]? = some n → Seen wr o (cellsI (marksI j 0 (n + 72)))
  lies : ∀ (j : Nat) (o : Value), os[j]? = some o → ∀ b, o.ownBlock = some b → ((∃ v, vs[j]? = some v ∧ v.ownBlock = some b) ∨ w.heap.size ≤ b) ∧ out.ownBlock ≠ some b
  old : ∀ (j : Nat) (v : Value) (n : Nat), vs[j]? = some v → ns[j]? = some n → Seen wr v (cellsI (marksI j 0 n))

/-- One more list is grown and told. -/
theorem GrownI.next {w wo w3 w5 : World} {vs os : List Value} {ns : List Nat} {k n base : Nat} {out out' v v' : Value} {ob : Obj} (hG : GrownI w wo vs ns k out os) (hv : vs[k]? = some v) (hn : ns[k]? = some n) (hP : Parted vs) (hvs : ∀ b, Blocks vs b → b < w.heap.size) (htw : Touch (Blocks vs) w wo)
    (T : Touch (fun b => v.ownBlock = some b) wo w3) (sv : Seen w3 v (cellsI (marksI k 0 n))) (so : Seen w3 v' (cellsI (marksI k 0 (n + 72)))) (hb' : v'.ownBlock = v.ownBlock ∨ ∃ b, v'.ownBlock = some b ∧ wo.heap.size ≤ b) (hb3 : ∀ b, v'.ownBlock = some b → b < w3.heap.size)
    (ho : w5.ownsRow w.heap.size 22 1 out' (k + 1) (os ++ [v'])) (hg : (w3.alloc ob).grownBy w5 out.ownBlock) (hat : out'.ownBlock = out.ownBlock ∨ out'.ownBlock = some (w3.heap.size + 1) ∧ (w3.alloc ob).grownBy w5 none) :
    GrownI w w5 vs ns (k + 1) out' (os ++ [v']) ∧ Touch (Blocks vs) w w5 ∧ Touch (fun b => v.ownBlock = some b ∨ out.ownBlock = some b) wo w5 := by
  have hlt : ∀ b, out.ownBlock = some b → w.heap.size ≤ b ∧ b < wo.heap.size := fun b hb => World.ownsRow.lt hG.own b hb
  have hzz := htw.size
  have hz3 := T.size
  have hal : (w3.alloc ob).heap.size = w3.heap.size + 1 := by simp
  have T5 : Touch (fun b => v.ownBlock = some b ∨ out.ownBlock = some b) wo w5 := ((T.mono fun b _ h => Or.inl h).alloc ob).grown hg (fun b hb => Or.inl (Or.inr hb))
  have A5 : Touch (fun b => out.ownBlock = some b) w3 w5 := ((Touch.refl _ w3).alloc ob).grown hg (fun b hb => Or.inl hb)
  have hvb : ∀ b, v.ownBlock = some b → b < w.heap.size := fun b hb => hvs b ⟨v, List.mem_of_getElem? hv, hb⟩
  have hov : ∀ b, v'.ownBlock = some b → out.ownBlock ≠ some b := by
    intro b hb he
    have h1 := hlt b he
    rcases hb' with h | ⟨c, hc, hle⟩
    · have := hvb b (h ▸ hb); omega
    · rw [hb] at hc
      have := Option.some.inj hc
      omega
  have hout : ∀ b, b < w3.heap.size → out.ownBlock ≠ some b → out'.ownBlock ≠ some b := by
    intro b hb hne he
    rcases hat with h | ⟨h, _⟩
    · exact hne (h ▸ he)
    · rw [he] at h
      have := Option.some.inj h
      omega
  refine ⟨⟨by rw [List.length_append, hG.len]; rfl, ho, ?_, ?_, ?_⟩, ?_, T5⟩
  · intro j o m hj hm
    rcases Nat.lt_or_ge j k with h | h
    · rw [List.getElem?_append_left (by rw [hG.len]; exact h)] at hj
      refine (hG.seen j o m hj hm).touch T5 (fun b hb hS => ?_)
      obtain ⟨h1, h2⟩ := hG.lies j o hj b hb
      rcases hS with hS | hS
      · rcases h1 with ⟨u, hu, hub⟩ | h1
        · exact hP j k u v (by omega) hu hv b hub hS
        · have := hvb b hS; omega
      · exact h2 hS
    · have hjk : j = k := by
        have := (List.getElem?_eq_some_iff.1 hj).1
        rw [List.length_append, hG.len] at this
        simp at this
        omega
      subst hjk
      rw [hn] at hm
      obtain rfl := Option.some.inj hm
      rw [List.getElem?_append_right (by rw [hG.len]; omega), hG.len, Nat.sub_self] at hj
      obtain rfl := Option.some.inj hj
      exact so.touch A5 (fun b hb hS => hov b hb hS)
  · intro j o hj b hb
    rcases Nat.lt_or_ge j k with h | h
    · rw [List.getElem?_append_left (by rw [hG.len]; exact h)] at hj
      obtain ⟨h1, h2⟩ := hG.lies j o hj b hb
      refine ⟨h1, hout b ?_ h2⟩
      rcases h1 with ⟨u, hu, hub⟩ | h1
      · have := hvs b ⟨u, List.mem_of_getElem? hu, hub⟩; omega
      · have hjn : j < ns.length := by have := (List.getElem?_eq_some_iff.1 hn).1; omega
        have hs := hG.seen j o ns[j] hj (List.getElem?_eq_getElem hjn)
        obtain ⟨g, cap, rfl, hc⟩ := hs.full (by rw [cellsI_len, marksI_len]; omega)
        have hgb : g = b := by simpa [Value.ownBlock] using hb
        have hlt0 := World.block_lt_of_cell? wo ⟨g, 0, none⟩ (hc 0 _ (cellsI_at _ 0 (by rw [marksI_len]; omega)))
        have : g < wo.heap.size := hlt0
        omega
    · have hjk : j = k := by
        have := (List.getElem?_eq_some_iff.1 hj).1
        rw [List.length_append, hG.len] at this
        simp at this
        omega
      subst hjk
      rw [List.getElem?_append_right (by rw [hG.len]; omega), hG.len, Nat.sub_self] at hj
      obtain rfl := Option.some.inj hj
      refine ⟨?_, hout b (hb3 b hb) (hov b hb)⟩
      rcases hb' with h | ⟨c, hc, hle⟩
      · exact Or.inl ⟨v, hv, h ▸ hb⟩
      · rw [hb] at hc
        have := Option.some.inj hc
        exact Or.inr (by omega)
  · intro j u m hu hm
    by_cases hjk : j = k
    · subst hjk
      rw [hv] at hu
      obtain rfl := Option.some.inj hu
      rw [hn] at hm
      obtain rfl := Option.some.inj hm
      exact sv.touch A5 (fun b hb hS => by have h1 := hvb b hb; have h2 := hlt b hS; omega)
    · refine (hG.old j u m hu hm).touch T5 (fun b hb hS => ?_)
      rcases hS with hS | hS
      · exact hP j k u v hjk hu hv b hb hS
      · have h1 := hvs b ⟨u, List.mem_of_getElem? hu, hb⟩
        have h2 := hlt b hS
        omega
  · refine ((htw.trans (T.mono fun b _ hb => ⟨v, List.mem_of_getElem? hv, hb⟩)).alloc ob).grown hg (fun b hb => Or.inr (hlt b hb).1)

end Go.Proofs.Ytmpmhepaonifpaa
