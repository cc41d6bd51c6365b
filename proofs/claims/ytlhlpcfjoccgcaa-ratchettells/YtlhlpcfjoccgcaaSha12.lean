/-
  The contract of a Digest's Copy.
-/
import Derived.Test.YtlhlpcfjoccgcaaSha11
namespace Go.Proofs.Ytlhlpcfjoccgcaa
open Go.RowKit
set_option linter.unusedVariables false
set_option maxRecDepth 100000

theorem callFunc_copyIn (args : Array Value) (w : World) : (callFunc 72 args).run Try.prog w = .ok (.enter 72 args) w := by
  simp [go_sem]
theorem cell_upon {b g p : Nat} {w w' : World} {x : Value} (h : Upon b w w') (hc : w.cell? ⟨g, p, none⟩ = some x) (hg : g ≠ b) : w'.cell? ⟨g, p, none⟩ = some x := by
  have hl : g < w.heap.size := World.block_lt_of_cell? w _ hc
  rw [← hc]
  exact World.cell?_of_block (w := w) (h.block g hl hg)

theorem cell_alloc {w : World} {a : Addr} {x : Value} {o : Obj} (h : w.cell? a = some x) : (w.alloc o).cell? a = some x := by
  rw [World.cell?_alloc_lt _ _ _ (World.block_lt_of_cell? w _ h)]; exact h
theorem cell_alloc_set {w : World} {b j : Nat} {x v : Value} {o : Obj} (h : w.cell? ⟨b, j, none⟩ = some x) (p : Nat) (hp : w.heap.size ≤ p) : (w.setCell ⟨p, 0, none⟩ v).cell? ⟨b, j, none⟩ = some x := by
  have hb := World.block_lt_of_cell? w _ h
  exact (World.cell?_setCell_other w ⟨p, 0, none⟩ ⟨b, j, none⟩ v (fun e => by injection e with e1; simp only at hb; omega)).trans h
/-- The cells of a Digest that is built of a block and a length. -/
def digMade (bc : List Value) (n : Int) : List Value := putAt (putAt digZero 75 bc) 139 [.int .i64 n]
theorem digMade_row (blk : List UInt8) (hb : blk.length = 64) (L : Nat) : digMade (cells8 blk) (L : Int) = digRow 0 0 z64 z8 blk L := by
  have e : putAt digZero 75 (cells8 blk) = digRow 0 0 z64 z8 blk 0 := by
    have := digRow_putBlk (done := 0) (mu := 0) (tab := z64) (st := z8) (blk := zeros8 64) (len := 0) 0 blk z64_len z8_len (by rw [zeros8_len]; omega)
    rw [Nat.add_zero] at this
    rw [digZero, this]
    congr 1
    simp [over, zeros8, hb]
  rw [digMade, e, ← digRow_setLen (done := 0) (mu := 0) (len := 0) L z64_len z8_len hb]
  unfold putAt
  rw [List.set_eq_take_append_cons_drop, if_pos (by rw [digRow_len z64_len z8_len hb]; omega)]
  simp
theorem digZero_len : digZero.length = 140 := digRow_len z64_len z8_len (zeros8_len 64)
theorem built43' (bc : List Value) (n : Int) (hb : bc.length = 64) : Try.prog.built 91 [(3, .agg bc.toArray), (4, .int .i64 n)] = some (digMade bc n).toArray := by
  obtain ⟨i, hi, hz⟩ := zero_parts zero43
  have hf := fields43
  unfold Program.built
  cases hu : Try.prog.underlying 91 with
  | none => rw [hu] at hf; simp at hf
  | some d =>
    rw [hu] at hf
    cases d with
    | struct fields =>
      simp only at hf
      simp only [hi, hz, hf]
      rw [show (Value.agg digZero.toArray).cells = digZero.toArray from rfl]
      rw [fill_step _ digZero bc 3 75 _ (by rw [hb]; rfl) (by rw [hb, digZero_len]; omega) _ rfl]
      rw [fill_step _ (putAt digZero 75 bc) [.int .i64 n] 4 139 _ rfl (by simp [putAt, hb, digZero_len]) _ rfl, Instr.fill]
      rfl
    | _ => simp at hf
theorem run_build43' (bc : List Value) (n : Int) (w : World) (hb : bc.length = 64) : (Instr.build 91 #[(3, .agg bc.toArray), (4, .int .i64 n)]).run Try.prog w = .ok (.agg (digMade bc n).toArray) w :=
  run_build w _ _ _ (built43' bc n hb)
/-- The building of a Digest, kept shut till its parts are known. -/
def shutBuild (t : TypeId) (parts : Array (Nat × Value)) : Sem Value := Instr.build t parts
theorem to_shutBuild (parts : Array (Nat × Value)) : Instr.build 91 parts = shutBuild 91 parts := rfl
theorem run_shutBuild (bc : List Value) (n : Int) (w : World) (hb : bc.length = 64) : (shutBuild 91 #[(3, .agg bc.toArray), (4, .int .i64 n)]).run Try.prog w = .ok (.agg (digMade bc n).toArray) w := run_build43' bc n w hb
attribute [local go_sem ↓] to_shutBuild
attribute [local go_sem] run_shutBuild

/-- 'c.once.Do(..)' inside Copy: the new Digest is ready behind it. -/
theorem dig_copyDo (b c pd pc : Nat) (bs blk : List UInt8) (w : World) (hbc : b ≠ c) (hdc : pd ≠ c) (hcc : pc ≠ c) (hb : blk.length = 64) (hblk : blk.take (bs.length % 64) = bs.drop (64 * (bs.length / 64)))
    (h1 : w.cell? ⟨pd, 0, none⟩ = some (.pointer (some ⟨b, 0, none⟩))) (h2 : w.cell? ⟨pc, 0, none⟩ = some (.pointer (some ⟨c, 0, none⟩)))
    (hrow : RowIs w b 91 (digRow 1 0 kTab (absorb bs (bs.length / 64)).list blk bs.length)) (hnew : RowIs w c 91 (digRow 0 0 z64 z8 blk bs.length)) :
    Calls Try.prog 60 #[.pointer (some ⟨c, 0, none⟩), .func (.func 72) #[] #[.pointer (some ⟨pd, 0, none⟩), .pointer (some ⟨pc, 0, none⟩)]] w fun e w' => e = .returned (.tuple #[]) ∧ Ready w' c bs ∧ Upon c w w' := by
  have hn1 := hnew.set 1 (.int .i32 1)
  rw [digRow_set1] at hn1
  have hu1 : Upon c w (w.setCell ⟨c, 1, none⟩ (.int .i32 1)) := (Upon.refl c w).setCell 1 _
  have hr1 := hu1.row hrow hbc
  have g1 := cell_upon hu1 h1 hdc
  have g2 := cell_upon hu1 h2 hcc
  obtain ⟨s, hs⟩ : ∃ s, s = absorb bs (bs.length / 64) := ⟨_, rfl⟩
  rw [← hs] at hrow hr1
  obtain ⟨xa, xb, xc, xd, xe, xf, xg, xh⟩ := s
  have hc := dig_copyIn b c pd pc (cells32 kTab) xa xb xc xd xe xf xg xh (.int .u32 0) (.int .u32 0) (.int .u32 0) (.int .u32 0) (.int .u32 0) (.int .u32 0) (.int .u32 0) (.int .u32 0) (w.setCell ⟨c, 1, none⟩ (.int .i32 1)) hbc hdc hcc rfl (cells32_one _) g1 g2 (hr1.range (digRow_tab kTab_len)) (hr1.range (digRow_st kTab_len)) (hn1.there (by rw [digRow_len z64_len z8_len hb]; omega)) (hn1.range (digRow_st (st := z8) z64_len)) (fun j => hn1.frozen j)
  refine (once_first c 0 72 #[] #[.pointer (some ⟨pd, 0, none⟩), .pointer (some ⟨pc, 0, none⟩)] #[.pointer (some ⟨pd, 0, none⟩), .pointer (some ⟨pc, 0, none⟩)] (fun w' => RowIs w' c 91 (digRow 0 1 kTab [xa, xb, xc, xd, xe, xf, xg, xh] blk bs.length) ∧ Upon c w w') w (fun w' => callFunc_copyIn _ w') (hnew.cellAt (digRow_done _ _ _ _ _ _)) (hnew.cellAt (digRow_mu _ _ _ _ _ _)) (hnew.frozen _) (hnew.frozen _) ?_).mono ?_
  · refine hc.mono ?_
    rintro e w' ⟨rfl, rfl⟩
    have hr : RowIs (((w.setCell ⟨c, 1, none⟩ (.int .i32 1)).drew.setCells c 3 (cells32 kTab)).setCells c 67 (cells32 [xa, xb, xc, xd, xe, xf, xg, xh])) c 91 (digRow 0 1 kTab [xa, xb, xc, xd, xe, xf, xg, xh] blk bs.length) := by
      have e1 := hn1.drew.sets (cells32 kTab) 3 (by rw [digRow_len z64_len z8_len hb]; simp [cells32_len, kTab_len])
      rw [digRow_putTab kTab z64_len kTab_len] at e1
      have e2 := e1.sets (cells32 [xa, xb, xc, xd, xe, xf, xg, xh]) 67 (by rw [digRow_len kTab_len z8_len hb]; simp [cells32_len])
      rwa [digRow_putSt [xa, xb, xc, xd, xe, xf, xg, xh] kTab_len z8_len rfl] at e2
    exact ⟨rfl, hr.cellAt (digRow_done _ _ _ _ _ _), hr.cellAt (digRow_mu _ _ _ _ _ _), hr.frozen _, hr.frozen _, hr, (hu1.drew.setCells _ _).setCells _ _⟩
  · rintro e w' ⟨rfl, w1, ⟨hr, hu⟩, rfl⟩
    refine ⟨rfl, ⟨blk, hb, hblk, ?_⟩, (hu.drew.setCell 0 _).setCell 1 _⟩
    have := (hr.drew.set 0 (.int .u32 1)).set 1 (.int .i32 0)
    rw [digRow_set0, digRow_set1] at this
    rw [← hs]
    exact this

set_option maxRecDepth 100000 in
set_option maxHeartbeats 1000000 in
theorem dig_copy (b : Nat) (bs : List UInt8) (w : World) (h : DigAt w b bs) :
    Calls Try.prog 63 #[.pointer (some ⟨b, 0, none⟩)] w fun e w' => ∃ c, e = .returned (.pointer (some ⟨c, 0, none⟩)) ∧ w.heap.size ≤ c ∧ Ready w' c bs ∧ Ready w' b bs ∧ Upon b w w' := by
  have hmf : ∀ (fn : Fn) (first cap : Array Value) (w : World), (Instr.makeFunc fn first cap).run Try.prog w = .ok (.func fn first cap) w := fun _ _ _ _ => rfl
  have hblt := h.lt
  have hgb : w.heap.size ≠ b := by omega
  have c1 : (w.alloc (.cells #[.pointer (some ⟨b, 0, none⟩)] 96)).cell? ⟨w.heap.size, 0, none⟩ = some (.pointer (some ⟨b, 0, none⟩)) := by simp
  have h1 : DigAt (w.alloc (.cells #[.pointer (some ⟨b, 0, none⟩)] 96)) b bs := h.below ((Below.refl _ _).alloc (Nat.le_refl _) _)
  have hu1 : Upon b w (w.alloc (.cells #[.pointer (some ⟨b, 0, none⟩)] 96)) := (Upon.refl b w).alloc _
  have hs1 : w.heap.size < (w.alloc (.cells #[.pointer (some ⟨b, 0, none⟩)] 96)).heap.size := by simp
  go_enter Try.func63, Try.ntmps63
  go_wp2_with fail
  generalize w.alloc (.cells #[.pointer (some ⟨b, 0, none⟩)] 96) = w1 at *
  have h1d : DigAt w1.drew b bs := h1.kept rfl
  go_region_held3 (fun w' => w'.cell? ⟨w.heap.size, 0, none⟩ = some (.pointer (some ⟨b, 0, none⟩))) (first | (with_reducible assumption) | (simp only [World.cell?_drew]; with_reducible assumption) | exact cell_upon hu2 ((World.cell?_drew _ _).trans c1) hgb) (first | (go_at_call 60; refine (dig_ensure b bs _ h1d).mono ?_; rintro e w2 ⟨rfl, hrd, hu2⟩))
  have c2 : w2.cell? ⟨w.heap.size, 0, none⟩ = some (.pointer (some ⟨b, 0, none⟩)) := cell_upon hu2 ((World.cell?_drew _ _).trans c1) hgb
  have hu2' : Upon b w w2 := hu1.drew.trans hu2
  have hs2 : w.heap.size < w2.heap.size := Nat.lt_of_lt_of_le hs1 hu2.size
  clear hu1 hu2 h1 h1d c1 hs1 h
  obtain ⟨blk, hb, hblk, hrow⟩ := hrd
  have hll := digRow_length (done := 1) (mu := 0) (len := bs.length) kTab_len (list_len (absorb bs (bs.length / 64))) hb
  have hcl := hrow.cellAt hll
  have hrb := hrow.range (digRow_blk (done := 1) (mu := 0) (len := bs.length) (blk := blk) kTab_len (list_len (absorb bs (bs.length / 64))))
  have hbl : (cells8 blk).length = 64 := by rw [cells8_len, hb]
  have hu := Try.underlying89
  have hi : (Try.prog.info? 89).map (·.size) = some (cells8 blk).length := by rw [hbl]; kernel_rfl
  have HR : Hid (digMade (cells8 blk) (bs.length : Int) = digRow 0 0 z64 z8 blk bs.length) := digMade_row blk hb _
  generalize cells8 blk = bc at *
  go_wp2_with fail
  go_region_held3 (fun w' => w'.cell? ⟨w.heap.size, 0, none⟩ = some (.pointer (some ⟨b, 0, none⟩)) ∧ w'.rangeAt b 75 bc ∧ w'.cell? ⟨b, 139, none⟩ = some (.int .i64 (bs.length : Int))) ((go_split_ands; (try simp only [World.rangeAt_drew, World.cell?_drew]); (refine ⟨?_, ?_, ?_⟩ <;> first | (with_reducible assumption) | (with_reducible exact cell_alloc (by assumption)) | (with_reducible exact World.rangeAt_alloc (by assumption) _) | (with_reducible exact cell_alloc (cell_alloc (by assumption))) | (with_reducible exact World.rangeAt_alloc (World.rangeAt_alloc (by assumption) _) _)))) (fail)
  · have hn3 : RowIs ((w2.alloc (.cells (digMade bc (bs.length : Int)).toArray 91)).alloc (.cells #[.pointer (some ⟨w2.heap.size, 0, none⟩)] 96)).drew w2.heap.size 91 (digRow 0 0 z64 z8 blk bs.length) := by
      have := (RowIs.new w2 91 (digMade bc (bs.length : Int))).alloc (.cells #[.pointer (some ⟨w2.heap.size, 0, none⟩)] 96)
      rw [HR.out] at this ⊢
      exact this.drew
    have hp3 : ((w2.alloc (.cells (digMade bc (bs.length : Int)).toArray 91)).alloc (.cells #[.pointer (some ⟨w2.heap.size, 0, none⟩)] 96)).drew.cell? ⟨w2.heap.size + 1, 0, none⟩ = some (.pointer (some ⟨w2.heap.size, 0, none⟩)) := by
      simp
    have hg3 := cell_alloc (o := .cells #[.pointer (some ⟨w2.heap.size, 0, none⟩)] 96) (cell_alloc (o := .cells (digMade bc (bs.length : Int)).toArray 91) c2)
    have hr3 := ((hrow.alloc (.cells (digMade bc (bs.length : Int)).toArray 91)).alloc (.cells #[.pointer (some ⟨w2.heap.size, 0, none⟩)] 96)).drew
    have hu3 := ((hu2'.alloc (.cells (digMade bc (bs.length : Int)).toArray 91)).alloc (.cells #[.pointer (some ⟨w2.heap.size, 0, none⟩)] 96)).drew
    have hg3d := (World.cell?_drew ((w2.alloc (.cells (digMade bc (bs.length : Int)).toArray 91)).alloc (.cells #[.pointer (some ⟨w2.heap.size, 0, none⟩)] 96)) ⟨w.heap.size, 0, none⟩).trans hg3
    clear hrow hg3 hcl hrb
    generalize ((w2.alloc (.cells (digMade bc (bs.length : Int)).toArray 91)).alloc (.cells #[.pointer (some ⟨w2.heap.size, 0, none⟩)] 96)).drew = w3 at *
    go_wp2_with fail
    refine (dig_copyDo b w2.heap.size w.heap.size (w2.heap.size + 1) bs blk _ (by omega) (by omega) (by omega) hb hblk hg3d hp3 hr3 hn3).mono ?_
    rintro e w4 ⟨rfl, hrd4, hu4⟩
    have hp4 := cell_upon hu4 hp3 (by omega)
    have hr4 := hu4.row hr3 (by omega)
    have hu5 : Upon b w w4 := ⟨hu4.os.trans hu3.os, hu4.tape.trans hu3.tape, hu4.output.trans hu3.output, Nat.le_trans hu3.size hu4.size, fun i hi hib => (hu4.block i (Nat.lt_of_lt_of_le hi hu3.size) (by omega)).trans (hu3.block i hi hib)⟩
    go_wp2
    go_ret
    exact ⟨w2.heap.size, rfl, by omega, hrd4, ⟨blk, hb, hblk, hr4⟩, hu5⟩
  · have hn3 : RowIs ((w2.alloc (.cells #[.pointer (some ⟨w2.heap.size + 1, 0, none⟩)] 96)).alloc (.cells (digMade bc (bs.length : Int)).toArray 91)).drew (w2.heap.size + 1) 91 (digRow 0 0 z64 z8 blk bs.length) := by
      have := (RowIs.new (w2.alloc (.cells #[.pointer (some ⟨w2.heap.size + 1, 0, none⟩)] 96)) 91 (digMade bc (bs.length : Int))).drew
      rw [show (w2.alloc (.cells #[.pointer (some ⟨w2.heap.size + 1, 0, none⟩)] 96)).heap.size = w2.heap.size + 1 from by simp] at this
      rw [HR.out] at this ⊢
      exact this
    have hp3 : ((w2.alloc (.cells #[.pointer (some ⟨w2.heap.size + 1, 0, none⟩)] 96)).alloc (.cells (digMade bc (bs.length : Int)).toArray 91)).drew.cell? ⟨w2.heap.size, 0, none⟩ = some (.pointer (some ⟨w2.heap.size + 1, 0, none⟩)) := (World.cell?_drew _ _).trans (cell_alloc ((RowIs.new w2 96 [.pointer (some ⟨w2.heap.size + 1, 0, none⟩)]).cellAt (j := 0) rfl))
    have hg3 := cell_alloc (o := .cells (digMade bc (bs.length : Int)).toArray 91) (cell_alloc (o := .cells #[.pointer (some ⟨w2.heap.size + 1, 0, none⟩)] 96) c2)
    have hr3 := ((hrow.alloc (.cells #[.pointer (some ⟨w2.heap.size + 1, 0, none⟩)] 96)).alloc (.cells (digMade bc (bs.length : Int)).toArray 91)).drew
    have hu3 := ((hu2'.alloc (.cells #[.pointer (some ⟨w2.heap.size + 1, 0, none⟩)] 96)).alloc (.cells (digMade bc (bs.length : Int)).toArray 91)).drew
    have hg3d := (World.cell?_drew ((w2.alloc (.cells #[.pointer (some ⟨w2.heap.size + 1, 0, none⟩)] 96)).alloc (.cells (digMade bc (bs.length : Int)).toArray 91)) ⟨w.heap.size, 0, none⟩).trans hg3
    clear hrow hg3 hcl hrb
    generalize ((w2.alloc (.cells #[.pointer (some ⟨w2.heap.size + 1, 0, none⟩)] 96)).alloc (.cells (digMade bc (bs.length : Int)).toArray 91)).drew = w3 at *
    go_wp2_with fail
    refine (dig_copyDo b (w2.heap.size + 1) w.heap.size w2.heap.size bs blk _ (by omega) (by omega) (by omega) hb hblk hg3d hp3 hr3 hn3).mono ?_
    rintro e w4 ⟨rfl, hrd4, hu4⟩
    have hp4 := cell_upon hu4 hp3 (by omega)
    have hr4 := hu4.row hr3 (by omega)
    have hu5 : Upon b w w4 := ⟨hu4.os.trans hu3.os, hu4.tape.trans hu3.tape, hu4.output.trans hu3.output, Nat.le_trans hu3.size hu4.size, fun i hi hib => (hu4.block i (Nat.lt_of_lt_of_le hi hu3.size) (by omega)).trans (hu3.block i hi hib)⟩
    go_wp2
    go_ret
    exact ⟨w2.heap.size + 1, rfl, by omega, hrd4, ⟨blk, hb, hblk, hr4⟩, hu5⟩

end Go.Proofs.Ytlhlpcfjoccgcaa
