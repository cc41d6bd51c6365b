/-
  The contract of a Digest's Add.
-/
import Derived.Test.YtlhlpcfjoccgcaaSha8
namespace Go.Proofs.Ytlhlpcfjoccgcaa
open Go.RowKit
set_option linter.unusedVariables false
set_option maxRecDepth 100000

/-- The length of the string in a slot. -/
def strLen : Value → Nat | .string s => s.size | _ => 0

/-- 'copy(dst, s)', s a string. -/
theorem run_copy_str (w : World) (ty : TypeId) (b o dLen dCap : Nat) (l : List UInt8) (n : Nat) (hn : n = min l.length dLen) (ht : w.there b o n) :
    (Builtin.copy_ #[37, 9] ty #[.slice (some ⟨b, o, none⟩) dLen dCap, .string (str l)]).run Try.prog w = .ok (.int .i64 (n : Int)) (w.setCells b o (cells8 (l.take n))) := by
  have hsz : (str l).size = l.length := str_size l
  have hst := run_storeCells_cells (P := Try.prog) b o (cells8 (l.take n)) 0 w (fun j hj => by simpa using (ht j (by rw [cells8_len] at hj; simp at hj; omega)).1) (fun j hj => by simpa using (ht j (by rw [cells8_len] at hj; simp at hj; omega)).2) (cells8_one _)
  have hz : ∀ w, (sizeOf 5).run Try.prog w = .ok 1 w := fun w => run_sizeOf cells5 w
  have hmin : Nat.min (str l).size dLen = n := by rw [hsz]; exact hn.symm
  simp [Builtin.copy_, run_underlying Try.underlying37, Builtin.lenOf, Builtin.firstCells, hz, hmin]
  rw [show (List.take n (List.map (fun b => Value.int IntKind.u8 (b.toNat : Int)) (str l).data.toList)) = cells8 (l.take n) from by simp [str, cells8]; rfl, hst]
  rfl

theorem step_copy_str {ops : Array Oper} {o : Oper} {a : Act} {w : World} {K : Act → World → Prop} {Q : Exit → Act → World → Prop} {E : Prop}
    (hg : o.guard = none) (d x : Operand) (hop : o.op = Op.call { callee := Callee.builtin Builtin.copy, args := #[d, x], argTypes := #[37, 9] })
    (b off dLen dCap : Nat) (hd : a.eval d = .slice (some ⟨b, off, none⟩) dLen dCap) (l : List UInt8) (hx : a.eval x = .string (str l)) (n : Nat) (hn : n = min l.length dLen) (ht : w.there b off n)
    (hK : K (a.put o.dst (.int .i64 (n : Int))) (w.setCells b off (cells8 (l.take n)))) :
    if Region.wanted o (yielded ops a.tmps) = true then Oper.wp Try.prog o a w K Q else E := by
  have hw : Region.wanted o (yielded ops a.tmps) = true := by simp [Region.wanted, hg]
  rw [if_pos hw]
  have hrun := run_copy_str w o.type b off dLen dCap l n hn ht
  unfold Oper.wp
  simp [execOp, hop, resolve, invoke, builtin, hd, hx, hrun, Result.andThen]
  exact hK

theorem over_take {blk p : List UInt8} {r : Nat} (h : r + p.length ≤ blk.length) : (over blk r p).take (r + p.length) = blk.take r ++ p := by
  unfold over
  rw [List.take_append_of_le_length (by simp; omega), List.take_of_length_le (by simp; omega)]
/-- Bytes that do not fill their block. -/
theorem add_some {bs blk p : List UInt8} (hb : blk.length = 64) (hr : blk.take (bs.length % 64) = bs.drop (64 * (bs.length / 64))) (hp : bs.length % 64 + p.length < 64) :
    absorb (bs ++ p) ((bs ++ p).length / 64) = absorb bs (bs.length / 64) ∧ (over blk (bs.length % 64) p).take ((bs ++ p).length % 64) = (bs ++ p).drop (64 * ((bs ++ p).length / 64)) := by
  have e1 : (bs ++ p).length / 64 = bs.length / 64 := by rw [List.length_append]; omega
  have e2 : (bs ++ p).length % 64 = bs.length % 64 + p.length := by rw [List.length_append]; omega
  rw [e1, e2, absorb_append _ _ _ (by omega), over_take (by omega), hr, List.drop_append_of_le_length (by omega)]
  exact ⟨rfl, rfl⟩
/-- Bytes that just fill it. -/
theorem add_full {bs blk p : List UInt8} (hb : blk.length = 64) (hr : blk.take (bs.length % 64) = bs.drop (64 * (bs.length / 64))) (hp : bs.length % 64 + p.length = 64) :
    absorb (bs ++ p) ((bs ++ p).length / 64) = comp (absorb bs (bs.length / 64)) (over blk (bs.length % 64) p) ∧ (over blk (bs.length % 64) p).take ((bs ++ p).length % 64) = (bs ++ p).drop (64 * ((bs ++ p).length / 64)) := by
  have e1 : (bs ++ p).length / 64 = bs.length / 64 + 1 := by rw [List.length_append]; omega
  have e2 : (bs ++ p).length % 64 = 0 := by rw [List.length_append]; omega
  have e3 : over blk (bs.length % 64) p = (bs ++ p).drop (64 * (bs.length / 64)) := by
    have := over_take (blk := blk) (p := p) (r := bs.length % 64) (by omega)
    rw [List.take_of_length_le (by rw [over_len (by omega)]; omega)] at this
    rw [this, hr, List.drop_append_of_le_length (by omega)]
  refine ⟨?_, ?_⟩
  · rw [e1, absorb, absorb_append _ _ _ (by omega), e3, List.take_of_length_le (by simp; omega)]
  · rw [e1, e2, List.take_zero, List.drop_of_length_le (by rw [List.length_append]; omega)]

theorem str_drop (l : List UInt8) (n : Nat) : (str l).extract n (str l).size = str (l.drop n) := by
  unfold str
  apply ByteArray.ext
  apply Array.toList_inj.1
  simp [ByteArray.data_extract, ByteArray.size, List.take_of_length_le]

set_option maxRecDepth 100000 in
set_option maxHeartbeats 1000000 in
theorem dig_add (b : Nat) (bs l : List UInt8) (w : World) (h : DigAt w b bs) (hlen : bs.length + l.length ≤ 576460752303423488) :
    Calls Try.prog 56 #[.pointer (some ⟨b, 0, none⟩), .string (str l)] w fun e w' => e = .returned (.tuple #[]) ∧ Ready w' b (bs ++ l) ∧ Upon b w w' := by
  have hmf : ∀ (fn : Fn) (first cap : Array Value) (w : World), (Instr.makeFunc fn first cap).run Try.prog w = .ok (.func fn first cap) w := fun _ _ _ _ => rfl
  go_enter Try.func56, Try.ntmps56
  go_wp2_with fail
  refine (dig_ensure b bs _ h).mono ?_
  rintro e w1 ⟨rfl, hrd, hup⟩
  clear h
  go_wp2
  go_loopw [1] (fun v wr => ∃ k : Nat, k ≤ l.length ∧ v = .string (str (l.drop k)) ∧ Ready wr b (bs ++ l.take k) ∧ Upon b w wr) (fun v _ => strLen v)
  case atStart => exact ⟨0, by omega, rfl, by simpa using hrd, hup⟩
  case round =>
    clear hrd hup
    obtain ⟨k, hk, rfl, hrd, hup⟩ := hrel
    by_cases hlt : k < l.length
    · obtain ⟨blk, hb, hblk, hrow⟩ := hrd
      have hpos : 0 < (str (l.drop k)).size := by rw [str_size]; simp; omega
      have hll := digRow_length (done := 1) (mu := 0) (len := (bs ++ l.take k).length) kTab_len (list_len (absorb (bs ++ l.take k) ((bs ++ l.take k).length / 64))) hb
      have hcl := hrow.cellAt hll
      have hrl := digRow_len (done := 1) (mu := 0) (len := (bs ++ l.take k).length) kTab_len (list_len (absorb (bs ++ l.take k) ((bs ++ l.take k).length / 64))) hb
      have hn0 : (bs ++ l.take k).length = bs.length + k := by simp; omega
      have HBS : Hid (∀ j, k + j ≤ l.length → bs ++ l.take (k + j) = (bs ++ l.take k) ++ (l.drop k).take j) := by
        intro j hj
        rw [List.append_assoc, ← List.take_add]
      have hrn : (l.drop k).length = l.length - k := by simp
      have HDD : Hid (∀ j, l.drop (k + j) = (l.drop k).drop j) := fun j => by rw [List.drop_drop]
      generalize bs ++ l.take k = bk at *
      generalize l.drop k = rest at *
      obtain ⟨L, hL⟩ : ∃ L, L = bk.length := ⟨_, rfl⟩
      obtain ⟨r, hr⟩ : ∃ r, r = L % 64 := ⟨_, rfl⟩
      obtain ⟨n, hn⟩ : ∃ n, n = min rest.length (64 - r) := ⟨_, rfl⟩
      rw [← hL] at hcl hn0 hrow hblk
      have hr64 : r < 64 := by omega
      have hmod : ((L : Int)).tmod 64 = (r : Int) := by rw [Int.tmod_eq_emod_of_nonneg (by omega)]; omega
      have hsl : ∀ w', (Instr.sliceAt 89 (.pointer (some ⟨b, 75, none⟩)) (some (.int .i64 (r : Int))) none none).run Try.prog w' = .ok (.slice (some ⟨b, 75 + r, none⟩) (64 - r) (64 - r)) w' := fun w' => by
        have := slice_l w' b 75 (r : Int) (by omega) (by omega)
        rwa [Int.toNat_natCast] at this
      have HRow : Hid (RowIs wr b 91 (digRow 1 0 kTab (absorb bk (L / 64)).list blk L)) := hrow
      have HN : Hid (n = min rest.length (64 - r)) := hn
      have HR : Hid (r = L % 64) := hr
      have hnle : n ≤ 64 - r := by omega
      have hth : wr.there b (75 + r) n := hrow.there (by rw [hL, hrl]; omega)
      have hLle : L + rest.length ≤ 576460752303423488 := by omega
      have HL : Hid (L = bk.length) := hL
      have HRN : Hid (rest.length = l.length - k) := hrn
      clear hn hr hll hL hn0 hrn
      go_wp2_with fail
      go_region_held3 (fun w' => w'.cell? ⟨b, 139, none⟩ = some (.int .i64 (L : Int))) (first | go_keep | exact (World.cell?_setCells_out _ _ _ _ _ (by intro _ _; right; simp [cells8_len]; omega)).trans hcl) (refine step_copy_str rfl (.tmp 24) (.tmp 25) rfl b (75 + r) (64 - r) (64 - r) rfl rest rfl n HN.out ((World.there_drew _ _ _ _).2 hth) ?_)
      have hpl : (rest.take n).length = n := by simp; have := HN.out; omega
      have hr3 : RowIs (wr.drew.setCells b (75 + r) (cells8 (rest.take n))) b 91 (digRow 1 0 kTab (absorb bk (L / 64)).list (over blk r (rest.take n)) L) := by
        rw [← digRow_putBlk r (rest.take n) kTab_len (list_len _) (by rw [hpl, hb]; omega)]
        exact hrow.drew.sets _ _ (by rw [cells8_len, hpl]; have := hrl; rw [← HL.out] at this; omega)
      have hup3 : Upon b w (wr.drew.setCells b (75 + r) (cells8 (rest.take n))) := hup.drew.setCells _ _
      have hob : (over blk r (rest.take n)).length = 64 := by rw [over_len (by rw [hpl, hb]; omega), hb]
      have hcl3 := hr3.cellAt (digRow_length (done := 1) (mu := 0) (len := L) kTab_len (list_len (absorb bk (L / 64))) hob)
      have hfz3 := hr3.frozen 139
      have hex : (str rest).extract n (str rest).size = str (rest.drop n) := str_drop rest n
      have hn1 : 0 < n := by have := HN.out; rw [str_size] at hpos; omega
      have hnr : n ≤ rest.length := by have := HN.out; omega
      have hns : (n : Int) ≤ ((str rest).size : Int) := by rw [str_size]; omega
      have HS : Hid ((str rest).size = rest.length) := str_size rest
      clear hcl hth hrow HRow
      generalize wr.drew.setCells b (75 + r) (cells8 (rest.take n)) = w3 at *
      by_cases hfull : r + n = 64
      · have hz : (((L : Int) + (n : Int)) % 64 == 0) = true := by have := HR.out; rw [beq_iff_eq]; omega
        have hR : Hid (∀ wz, RowIs wz b 91 (digRow 1 0 kTab (comp (absorb bk (L / 64)) (over blk r (rest.take n))).list (over blk r (rest.take n)) (L + n)) → Ready wz b (bs ++ l.take (k + n))) := by
          intro wz hwz
          rw [HBS.out n (by have := HRN.out; omega)]
          have ha := add_full (bs := bk) (blk := blk) (p := rest.take n) hb (by rw [← HL.out]; exact hblk) (by rw [← HL.out, ← HR.out, hpl]; exact hfull)
          rw [← HL.out, ← HR.out] at ha
          refine ⟨_, hob, ha.2, ?_⟩
          rw [ha.1, List.length_append, hpl, ← HL.out]
          exact hwz
        have hset : RowIs (w3.setCell ⟨b, 139, none⟩ (.int .i64 ((L : Int) + (n : Int)))) b 91 (digRow 1 0 kTab (absorb bk (L / 64)).list (over blk r (rest.take n)) (L + n)) := by
          have := hr3.set 139 (.int .i64 ((L + n : Nat) : Int))
          rw [digRow_setLen (L + n) kTab_len (list_len _) hob] at this
          exact this
        have hcell4 := hset.cellAt (digRow_length (done := 1) (mu := 0) (len := L + n) kTab_len (list_len (absorb bk (L / 64))) hob)
        have hup4 : Upon b w (w3.setCell ⟨b, 139, none⟩ (.int .i64 ((L : Int) + (n : Int)))) := hup3.setCell _ _
        have hsok := absorb_ok bk (L / 64)
        go_wp2_with fail
        refine (dig_compress b _ hsok _ _ _ hob hset).mono ?_
        rintro e w5 ⟨rfl, hr5, hu5⟩
        go_wp2
        go_roundw
        case rel => exact ⟨k + n, by have := HRN.out; omega, by rw [HDD.out n], hR.out _ hr5, hup4.trans hu5⟩
        case measure => simp only [strLen, str_size, List.length_drop]; omega
      · have hz : (((L : Int) + (n : Int)) % 64 == 0) = false := by have := HR.out; rw [beq_eq_false_iff_ne]; omega
        have hset : RowIs (w3.setCell ⟨b, 139, none⟩ (.int .i64 ((L : Int) + (n : Int)))) b 91 (digRow 1 0 kTab (absorb bk (L / 64)).list (over blk r (rest.take n)) (L + n)) := by
          have := hr3.set 139 (.int .i64 ((L + n : Nat) : Int))
          rw [digRow_setLen (L + n) kTab_len (list_len _) hob] at this
          exact this
        have hR : Hid (Ready (w3.setCell ⟨b, 139, none⟩ (.int .i64 ((L : Int) + (n : Int)))) b (bs ++ l.take (k + n))) := by
          rw [HBS.out n (by have := HRN.out; omega)]
          have ha := add_some (bs := bk) (blk := blk) (p := rest.take n) hb (by rw [← HL.out]; exact hblk) (by rw [← HL.out, ← HR.out, hpl]; omega)
          rw [← HL.out, ← HR.out] at ha
          refine ⟨_, hob, ha.2, ?_⟩
          rw [ha.1, List.length_append, hpl, ← HL.out]
          exact hset
        have hup4 : Upon b w (w3.setCell ⟨b, 139, none⟩ (.int .i64 ((L : Int) + (n : Int)))) := hup3.setCell _ _
        have hcell4 := hset.cellAt (digRow_length (done := 1) (mu := 0) (len := L + n) kTab_len (list_len (absorb bk (L / 64))) hob)
        clear hset
        go_wp2
        go_roundw
        case rel => exact ⟨k + n, by have := HRN.out; omega, by rw [HDD.out n], hR.out, hup4⟩
        case measure => simp only [strLen, str_size, List.length_drop]; omega
    · have hkl : k = l.length := by omega
      have hR : Hid (Ready wr b (bs ++ l)) := by
        rw [hkl, List.take_length] at hrd
        exact hrd
      have hzero : ¬ 0 < (str (l.drop k)).size := by rw [str_size, List.length_drop]; omega
      clear hrd hkl
      go_wp2
      go_end0
      exact ⟨rfl, hR.out, hup⟩

end Go.Proofs.Ytlhlpcfjoccgcaa
