/-
  Parts of this proof, one behind the other: Sha8, Sha9, Sha10, Sha11, Sha12, Sha13, Alive2, RefD, RefE, RefF.
-/
import Derived.Test.YtanghehmfagmfaaGreatDoorBun16
import Derived.Test.YtanghehmfagmfaaGreatDoorBun18
import Derived.Deep.RegionWith
import Derived.Test.YtanghehmfagmfaaGreatDoorBun11
import Derived.Test.YtanghehmfagmfaaGreatDoorBun9
import Derived.Test.YtanghehmfagmfaaGreatDoorBun4
import Derived.Test.YtanghehmfagmfaaGreatDoorBun8
import Derived.Deep.RegionHeld3
import Derived.Test.YtanghehmfagmfaaGreatDoorBun19
import Derived.Deep.AppendLies

/-
  The contract of a Digest's compress.
-/
namespace Go.Proofs.YtanghehmfagmfaaGreatDoor
open Go.RowKit
set_option linter.unusedVariables false
set_option maxRecDepth 100000

theorem st_cell {w : World} {b : Nat} {r : List Value} {l : List Int} {o : Nat} (h : RowIs w b 277 r) (hr : (r.drop o).take (cells32 l).length = cells32 l) (j : Nat) (hj : j < l.length) : w.cell? ⟨b, o + j, none⟩ = some (.int .u32 (l.getD j 0)) :=
  h.range hr j _ (cells32_at l j hj)

set_option maxRecDepth 100000 in
set_option maxHeartbeats 1000000 in
theorem dig_compress (b : Nat) (s : S8) (hs : s.ok) (blk : List UInt8) (len : Nat) (w : World) (hb : blk.length = 64) (h : RowIs w b 277 (digRow 1 0 kTab s.list blk len)) :
    Calls Tryz.prog 244 #[.pointer (some ⟨b, 0, none⟩)] w fun e w' => e = .returned (.tuple #[]) ∧ RowIs w' b 277 (digRow 1 0 kTab (comp s blk).list blk len) ∧ Upon b w w' := by
  have hblt := h.lt
  have hlen := digRow_len (done := 1) (mu := 0) (len := len) kTab_len (list_len s) hb
  have HB : Hid (w.rangeAt b 75 (cells8 blk)) := h.range (digRow_blk kTab_len (list_len s))
  have hrT := digRow_tab (done := 1) (mu := 0) (st := s.list) (blk := blk) (len := len) kTab_len
  have hrS := digRow_st (done := 1) (mu := 0) (st := s.list) (blk := blk) (len := len) kTab_len
  have HP : Hid (putAt (digRow 1 0 kTab s.list blk len) 67 (cells32 (comp s blk).list) = digRow 1 0 kTab (comp s blk).list blk len) := digRow_putSt _ kTab_len (list_len s) (list_len _)
  obtain ⟨wc, hwc⟩ : ∃ wc, wc = cells32 (wTo blk 64) := ⟨_, rfl⟩
  have HW : Hid (cells32 (wTo blk 64) = wc) := hwc.symm
  have hwl : wc.length = 64 := by rw [hwc, cells32_len, wTo_len]
  have hw1 : wc.toArray.all (·.oneCell') = true := by rw [hwc]; exact all_oneCell_toArray (cells32_one _)
  clear hwc
  generalize digRow 1 0 kTab s.list blk len = r at *
  go_enter Tryz.func244, Tryz.ntmps244
  go_wp2_with fail
  refine (dig_schedule b 75 blk _ hb HB.out hblt).mono ?_
  rintro e w1 ⟨rfl, hb1⟩
  rw [HW.out]
  have hr1 := h.below hb1 hblt
  have hu1 : Upon b w w1 := Upon.of_below hb1
  have hnew : RowIs (w1.alloc (.cells (cells32 z64).toArray 247)) w1.heap.size 247 (cells32 z64) := RowIs.new _ _ _
  clear h hb1
  go_wp2_with (first | (refine wpList_alloc rfl rfl run_alloc64 ?_) | (refine wpList_store_mid rfl 247 _ _ rfl w1.heap.size 0 wc.toArray rfl rfl (hnew.there (by simp [hwl, cells32_len, z64_len])) (by rw [size64]; simp [hwl]) hw1 ?_))
  have hr2 : RowIs ((w1.alloc (.cells (cells32 z64).toArray 247)).setCells w1.heap.size 0 wc) b 277 r := by
    have := hr1.alloc (.cells (cells32 z64).toArray 247)
    unfold RowIs at this ⊢
    rw [heap_setCells _ _ _ _ _ (Nat.ne_of_lt hr1.lt)]
    exact this
  have hn2 : RowIs ((w1.alloc (.cells (cells32 z64).toArray 247)).setCells w1.heap.size 0 wc) w1.heap.size 247 wc := by
    have := hnew.sets wc 0 (by rw [cells32_len, z64_len]; omega)
    rwa [show putAt (cells32 z64) 0 wc = wc from by simp [putAt, cells32_len, z64_len, hwl]] at this
  have hu2 : Upon b w ((w1.alloc (.cells (cells32 z64).toArray 247)).setCells w1.heap.size 0 wc) :=
    hu1.trans (Upon.of_below (bel_setCells ((Below.refl _ _).alloc (Nat.le_refl _) _) (Nat.le_refl _) _ _))
  have hb2 : b < ((w1.alloc (.cells (cells32 z64).toArray 247)).setCells w1.heap.size 0 wc).heap.size := hr2.lt
  have hg2 : w1.heap.size < ((w1.alloc (.cells (cells32 z64).toArray 247)).setCells w1.heap.size 0 wc).heap.size := hn2.lt
  clear hnew hr1 hu1
  generalize (w1.alloc (.cells (cells32 z64).toArray 247)).setCells w1.heap.size 0 wc = w2 at *
  generalize w1.heap.size = g at *
  obtain ⟨xa, xb, xc, xd, xe, xf, xg, xh⟩ := s
  have c0 : w2.cell? ⟨b, 67, none⟩ = some (.int .u32 xa) := st_cell hr2 hrS 0 (by simp [S8.list])
  have c1 : w2.cell? ⟨b, 68, none⟩ = some (.int .u32 xb) := st_cell hr2 hrS 1 (by simp [S8.list])
  have c2 : w2.cell? ⟨b, 69, none⟩ = some (.int .u32 xc) := st_cell hr2 hrS 2 (by simp [S8.list])
  have c3 : w2.cell? ⟨b, 70, none⟩ = some (.int .u32 xd) := st_cell hr2 hrS 3 (by simp [S8.list])
  have c4 : w2.cell? ⟨b, 71, none⟩ = some (.int .u32 xe) := st_cell hr2 hrS 4 (by simp [S8.list])
  have c5 : w2.cell? ⟨b, 72, none⟩ = some (.int .u32 xf) := st_cell hr2 hrS 5 (by simp [S8.list])
  have c6 : w2.cell? ⟨b, 73, none⟩ = some (.int .u32 xg) := st_cell hr2 hrS 6 (by simp [S8.list])
  have c7 : w2.cell? ⟨b, 74, none⟩ = some (.int .u32 xh) := st_cell hr2 hrS 7 (by simp [S8.list])
  have HC : Hid (∀ w' : World, w'.heap = w2.heap → Calls Tryz.prog 252 #[.agg #[.int .u32 xa, .int .u32 xb, .int .u32 xc, .int .u32 xd, .int .u32 xe, .int .u32 xf, .int .u32 xg, .int .u32 xh], .pointer (some ⟨b, 3, none⟩), .pointer (some ⟨g, 0, none⟩)] w' fun e w'' => e = .returned (.agg #[.int .u32 (comp ⟨xa, xb, xc, xd, xe, xf, xg, xh⟩ blk).a, .int .u32 (comp ⟨xa, xb, xc, xd, xe, xf, xg, xh⟩ blk).b, .int .u32 (comp ⟨xa, xb, xc, xd, xe, xf, xg, xh⟩ blk).c, .int .u32 (comp ⟨xa, xb, xc, xd, xe, xf, xg, xh⟩ blk).d, .int .u32 (comp ⟨xa, xb, xc, xd, xe, xf, xg, xh⟩ blk).e, .int .u32 (comp ⟨xa, xb, xc, xd, xe, xf, xg, xh⟩ blk).f, .int .u32 (comp ⟨xa, xb, xc, xd, xe, xf, xg, xh⟩ blk).g, .int .u32 (comp ⟨xa, xb, xc, xd, xe, xf, xg, xh⟩ blk).h]) ∧ RowIs w'' b 277 r ∧ Below w2.heap.size w' w'') := by
    intro w' hw'
    have hr' : RowIs w' b 277 r := by unfold RowIs at *; rw [hw']; exact hr2
    have hn' : RowIs w' g 247 (cells32 (wTo blk 64)) := by rw [HW.out]; unfold RowIs at *; rw [hw']; exact hn2
    refine (dig_compressed ⟨xa, xb, xc, xd, xe, xf, xg, xh⟩ hs b 3 g 0 kTab (wTo blk 64) w' rfl (wTo_len _ _) (hr'.range hrT) (hn'.range (by rw [List.drop_zero, List.take_length])) hr'.lt hn'.lt).mono ?_
    rintro e w'' ⟨rfl, hbel⟩
    exact ⟨rfl, hr'.below hbel hr'.lt, by rw [← hw']; exact hbel⟩
  clear hr2 hn2 hs HB
  obtain ⟨cm, hcm⟩ : ∃ cm, cm = comp ⟨xa, xb, xc, xd, xe, xf, xg, xh⟩ blk := ⟨_, rfl⟩
  rw [← hcm] at HC HP
  have HM : Hid (comp ⟨xa, xb, xc, xd, xe, xf, xg, xh⟩ blk = cm) := hcm.symm
  clear hcm
  go_region_with (first | (go_at_call 252; refine (HC.out w2.drew rfl).mono ?_; rintro e w3 ⟨rfl, hr3, hb3⟩; have d0 : (w3.cell? ⟨b, 67, none⟩) = some (.int .u32 xa) := st_cell hr3 hrS 0 (by simp [S8.list]); have d1 : (w3.cell? ⟨b, 68, none⟩) = some (.int .u32 xb) := st_cell hr3 hrS 1 (by simp [S8.list]); have d2 : (w3.cell? ⟨b, 69, none⟩) = some (.int .u32 xc) := st_cell hr3 hrS 2 (by simp [S8.list]); have d3 : (w3.cell? ⟨b, 70, none⟩) = some (.int .u32 xd) := st_cell hr3 hrS 3 (by simp [S8.list]); have d4 : (w3.cell? ⟨b, 71, none⟩) = some (.int .u32 xe) := st_cell hr3 hrS 4 (by simp [S8.list]); have d5 : (w3.cell? ⟨b, 72, none⟩) = some (.int .u32 xf) := st_cell hr3 hrS 5 (by simp [S8.list]); have d6 : (w3.cell? ⟨b, 73, none⟩) = some (.int .u32 xg) := st_cell hr3 hrS 6 (by simp [S8.list]); have d7 : (w3.cell? ⟨b, 74, none⟩) = some (.int .u32 xh) := st_cell hr3 hrS 7 (by simp [S8.list]); have z := fun j => hr3.frozen j))
  go_wp2
  go_end0
  have hu3 : Upon b w w3 := hu2.drew.trans (Upon.of_below hb3)
  refine ⟨rfl, ?_, hu3.setCells 67 (cells32 cm.list)⟩
  rw [HM.out, ← HP.out]
  exact hr3.sets (cells32 cm.list) 67 (by rw [hlen]; simp [cells32_len, list_len])

end Go.Proofs.YtanghehmfagmfaaGreatDoor

/-
  The contract of a Digest's Add.
-/
namespace Go.Proofs.YtanghehmfagmfaaGreatDoor
open Go.RowKit
set_option linter.unusedVariables false
set_option maxRecDepth 100000

/-- The length of the string in a slot. -/
def strLen : Value → Nat | .string s => s.size | _ => 0

/-- 'copy(dst, s)', s a string. -/
theorem run_copy_str (w : World) (ty : TypeId) (b o dLen dCap : Nat) (l : List UInt8) (n : Nat) (hn : n = min l.length dLen) (ht : w.there b o n) :
    (Builtin.copy_ #[51, 9] ty #[.slice (some ⟨b, o, none⟩) dLen dCap, .string (str l)]).run Tryz.prog w = .ok (.int .i64 (n : Int)) (w.setCells b o (cells8 (l.take n))) := by
  have hsz : (str l).size = l.length := str_size l
  have hst := run_storeCells_cells (P := Tryz.prog) b o (cells8 (l.take n)) 0 w (fun j hj => by simpa using (ht j (by rw [cells8_len] at hj; simp at hj; omega)).1) (fun j hj => by simpa using (ht j (by rw [cells8_len] at hj; simp at hj; omega)).2) (cells8_one _)
  have hz : ∀ w, (sizeOf 5).run Tryz.prog w = .ok 1 w := fun w => run_sizeOf cells5 w
  have hmin : Nat.min (str l).size dLen = n := by rw [hsz]; exact hn.symm
  simp [Builtin.copy_, run_underlying Tryz.underlying51, Builtin.lenOf, Builtin.firstCells, hz, hmin]
  rw [show (List.take n (List.map (fun b => Value.int IntKind.u8 (b.toNat : Int)) (str l).data.toList)) = cells8 (l.take n) from by simp [str, cells8]; rfl, hst]
  rfl

theorem step_copy_str {ops : Array Oper} {o : Oper} {a : Act} {w : World} {K : Act → World → Prop} {Q : Exit → Act → World → Prop} {E : Prop}
    (hg : o.guard = none) (d x : Operand) (hop : o.op = Op.call { callee := Callee.builtin Builtin.copy, args := #[d, x], argTypes := #[51, 9] })
    (b off dLen dCap : Nat) (hd : a.eval d = .slice (some ⟨b, off, none⟩) dLen dCap) (l : List UInt8) (hx : a.eval x = .string (str l)) (n : Nat) (hn : n = min l.length dLen) (ht : w.there b off n)
    (hK : K (a.put o.dst (.int .i64 (n : Int))) (w.setCells b off (cells8 (l.take n)))) :
    if Region.wanted o (yielded ops a.tmps) = true then Oper.wp Tryz.prog o a w K Q else E := by
  have hw : Region.wanted o (yielded ops a.tmps) = true := by simp [Region.wanted, hg]
  rw [if_pos hw]
  have hrun := run_copy_str w o.type b off dLen dCap l n hn ht
  unfold Oper.wp
  simp [execOp, hop, resolve, invoke, builtin, hd, hx, hrun, Result.andThen]
  exact hK

theorem over_take {blk p : List UInt8} {r : Nat} (h : r + p.length ≤ blk.length) : (over blk r p).take (r + p.length) = blk.take r ++ p := by
  unfold over
  rw [List.take_append_of_le_length (by simp; omega), List.take_of_length_le (by simp; omega)]
/-- Bytes that do not fill their block. -/
theorem add_some {bs blk p : List UInt8} (hb : blk.length = 64) (hr : blk.take (bs.length % 64) = bs.drop (64 * (bs.length / 64))) (hp : bs.length % 64 + p.length < 64) :
    absorb (bs ++ p) ((bs ++ p).length / 64) = absorb bs (bs.length / 64) ∧ (over blk (bs.length % 64) p).take ((bs ++ p).length % 64) = (bs ++ p).drop (64 * ((bs ++ p).length / 64)) := by
  have e1 : (bs ++ p).length / 64 = bs.length / 64 := by rw [List.length_append]; omega
  have e2 : (bs ++ p).length % 64 = bs.length % 64 + p.length := by rw [List.length_append]; omega
  rw [e1, e2, absorb_append _ _ _ (by omega), over_take (by omega), hr, List.drop_append_of_le_length (by omega)]
  exact ⟨rfl, rfl⟩
/-- Bytes that just fill it. -/
theorem add_full {bs blk p : List UInt8} (hb : blk.length = 64) (hr : blk.take (bs.length % 64) = bs.drop (64 * (bs.length / 64))) (hp : bs.length % 64 + p.length = 64) :
    absorb (bs ++ p) ((bs ++ p).length / 64) = comp (absorb bs (bs.length / 64)) (over blk (bs.length % 64) p) ∧ (over blk (bs.length % 64) p).take ((bs ++ p).length % 64) = (bs ++ p).drop (64 * ((bs ++ p).length / 64)) := by
  have e1 : (bs ++ p).length / 64 = bs.length / 64 + 1 := by rw [List.length_append]; omega
  have e2 : (bs ++ p).length % 64 = 0 := by rw [List.length_append]; omega
  have e3 : over blk (bs.length % 64) p = (bs ++ p).drop (64 * (bs.length / 64)) := by
    have := over_take (blk := blk) (p := p) (r := bs.length % 64) (by omega)
    rw [List.take_of_length_le (by rw [over_len (by omega)]; omega)] at this
    rw [this, hr, List.drop_append_of_le_length (by omega)]
  refine ⟨?_, ?_⟩
  · rw [e1, absorb, absorb_append _ _ _ (by omega), e3, List.take_of_length_le (by simp; omega)]
  · rw [e1, e2, List.take_zero, List.drop_of_length_le (by rw [List.length_append]; omega)]

theorem str_drop (l : List UInt8) (n : Nat) : (str l).extract n (str l).size = str (l.drop n) := by
  unfold str
  apply ByteArray.ext
  apply Array.toList_inj.1
  simp [ByteArray.data_extract, ByteArray.size, List.take_of_length_le]

set_option maxRecDepth 100000 in
set_option maxHeartbeats 1000000 in
theorem dig_add (b : Nat) (bs l : List UInt8) (w : World) (h : DigAt w b bs) (hlen : bs.length + l.length ≤ 576460752303423488) :
    Calls Tryz.prog 240 #[.pointer (some ⟨b, 0, none⟩), .string (str l)] w fun e w' => e = .returned (.tuple #[]) ∧ Ready w' b (bs ++ l) ∧ Upon b w w' := by
  have hmf : ∀ (fn : Fn) (first cap : Array Value) (w : World), (Instr.makeFunc fn first cap).run Tryz.prog w = .ok (.func fn first cap) w := fun _ _ _ _ => rfl
  go_enter Tryz.func240, Tryz.ntmps240
  go_wp2_with fail
  refine (dig_ensure b bs _ h).mono ?_
  rintro e w1 ⟨rfl, hrd, hup⟩
  clear h
  go_wp2
  go_loopw [1] (fun v wr => ∃ k : Nat, k ≤ l.length ∧ v = .string (str (l.drop k)) ∧ Ready wr b (bs ++ l.take k) ∧ Upon b w wr) (fun v _ => strLen v)
  case atStart => exact ⟨0, by omega, rfl, by simpa using hrd, hup⟩
  case round =>
    clear hrd hup
    obtain ⟨k, hk, rfl, hrd, hup⟩ := hrel
    by_cases hlt : k < l.length
    · obtain ⟨blk, hb, hblk, hrow⟩ := hrd
      have hpos : 0 < (str (l.drop k)).size := by rw [str_size]; simp; omega
      have hll := digRow_length (done := 1) (mu := 0) (len := (bs ++ l.take k).length) kTab_len (list_len (absorb (bs ++ l.take k) ((bs ++ l.take k).length / 64))) hb
      have hcl := hrow.cellAt hll
      have hrl := digRow_len (done := 1) (mu := 0) (len := (bs ++ l.take k).length) kTab_len (list_len (absorb (bs ++ l.take k) ((bs ++ l.take k).length / 64))) hb
      have hn0 : (bs ++ l.take k).length = bs.length + k := by simp; omega
      have HBS : Hid (∀ j, k + j ≤ l.length → bs ++ l.take (k + j) = (bs ++ l.take k) ++ (l.drop k).take j) := by
        intro j hj
        rw [List.append_assoc, ← List.take_add]
      have hrn : (l.drop k).length = l.length - k := by simp
      have HDD : Hid (∀ j, l.drop (k + j) = (l.drop k).drop j) := fun j => by rw [List.drop_drop]
      generalize bs ++ l.take k = bk at *
      generalize l.drop k = rest at *
      obtain ⟨L, hL⟩ : ∃ L, L = bk.length := ⟨_, rfl⟩
      obtain ⟨r, hr⟩ : ∃ r, r = L % 64 := ⟨_, rfl⟩
      obtain ⟨n, hn⟩ : ∃ n, n = min rest.length (64 - r) := ⟨_, rfl⟩
      rw [← hL] at hcl hn0 hrow hblk
      have hr64 : r < 64 := by omega
      have hmod : ((L : Int)).tmod 64 = (r : Int) := by rw [Int.tmod_eq_emod_of_nonneg (by omega)]; omega
      have hsl : ∀ w', (Instr.sliceAt 275 (.pointer (some ⟨b, 75, none⟩)) (some (.int .i64 (r : Int))) none none).run Tryz.prog w' = .ok (.slice (some ⟨b, 75 + r, none⟩) (64 - r) (64 - r)) w' := fun w' => by
        have := slice_l w' b 75 (r : Int) (by omega) (by omega)
        rwa [Int.toNat_natCast] at this
      have HRow : Hid (RowIs wr b 277 (digRow 1 0 kTab (absorb bk (L / 64)).list blk L)) := hrow
      have HN : Hid (n = min rest.length (64 - r)) := hn
      have HR : Hid (r = L % 64) := hr
      have hnle : n ≤ 64 - r := by omega
      have hth : wr.there b (75 + r) n := hrow.there (by rw [hL, hrl]; omega)
      have hLle : L + rest.length ≤ 576460752303423488 := by omega
      have HL : Hid (L = bk.length) := hL
      have HRN : Hid (rest.length = l.length - k) := hrn
      clear hn hr hll hL hn0 hrn
      go_wp2_with fail
      go_region_held3 (fun w' => w'.cell? ⟨b, 139, none⟩ = some (.int .i64 (L : Int))) (first | go_keep | exact (World.cell?_setCells_out _ _ _ _ _ (by intro _ _; right; simp [cells8_len]; omega)).trans hcl) (refine step_copy_str rfl (.tmp 24) (.tmp 25) rfl b (75 + r) (64 - r) (64 - r) rfl rest rfl n HN.out ((World.there_drew _ _ _ _).2 hth) ?_)
      have hpl : (rest.take n).length = n := by simp; have := HN.out; omega
      have hr3 : RowIs (wr.drew.setCells b (75 + r) (cells8 (rest.take n))) b 277 (digRow 1 0 kTab (absorb bk (L / 64)).list (over blk r (rest.take n)) L) := by
        rw [← digRow_putBlk r (rest.take n) kTab_len (list_len _) (by rw [hpl, hb]; omega)]
        exact hrow.drew.sets _ _ (by rw [cells8_len, hpl]; have := hrl; rw [← HL.out] at this; omega)
      have hup3 : Upon b w (wr.drew.setCells b (75 + r) (cells8 (rest.take n))) := hup.drew.setCells _ _
      have hob : (over blk r (rest.take n)).length = 64 := by rw [over_len (by rw [hpl, hb]; omega), hb]
      have hcl3 := hr3.cellAt (digRow_length (done := 1) (mu := 0) (len := L) kTab_len (list_len (absorb bk (L / 64))) hob)
      have hfz3 := hr3.frozen 139
      have hex : (str rest).extract n (str rest).size = str (rest.drop n) := str_drop rest n
      have hn1 : 0 < n := by have := HN.out; rw [str_size] at hpos; omega
      have hnr : n ≤ rest.length := by have := HN.out; omega
      have hns : (n : Int) ≤ ((str rest).size : Int) := by rw [str_size]; omega
      have HS : Hid ((str rest).size = rest.length) := str_size rest
      clear hcl hth hrow HRow
      generalize wr.drew.setCells b (75 + r) (cells8 (rest.take n)) = w3 at *
      by_cases hfull : r + n = 64
      · have hz : (((L : Int) + (n : Int)) % 64 == 0) = true := by have := HR.out; rw [beq_iff_eq]; omega
        have hR : Hid (∀ wz, RowIs wz b 277 (digRow 1 0 kTab (comp (absorb bk (L / 64)) (over blk r (rest.take n))).list (over blk r (rest.take n)) (L + n)) → Ready wz b (bs ++ l.take (k + n))) := by
          intro wz hwz
          rw [HBS.out n (by have := HRN.out; omega)]
          have ha := add_full (bs := bk) (blk := blk) (p := rest.take n) hb (by rw [← HL.out]; exact hblk) (by rw [← HL.out, ← HR.out, hpl]; exact hfull)
          rw [← HL.out, ← HR.out] at ha
          refine ⟨_, hob, ha.2, ?_⟩
          rw [ha.1, List.length_append, hpl, ← HL.out]
          exact hwz
        have hset : RowIs (w3.setCell ⟨b, 139, none⟩ (.int .i64 ((L : Int) + (n : Int)))) b 277 (digRow 1 0 kTab (absorb bk (L / 64)).list (over blk r (rest.take n)) (L + n)) := by
          have := hr3.set 139 (.int .i64 ((L + n : Nat) : Int))
          rw [digRow_setLen (L + n) kTab_len (list_len _) hob] at this
          exact this
        have hcell4 := hset.cellAt (digRow_length (done := 1) (mu := 0) (len := L + n) kTab_len (list_len (absorb bk (L / 64))) hob)
        have hup4 : Upon b w (w3.setCell ⟨b, 139, none⟩ (.int .i64 ((L : Int) + (n : Int)))) := hup3.setCell _ _
        have hsok := absorb_ok bk (L / 64)
        go_wp2_with fail
        refine (dig_compress b _ hsok _ _ _ hob hset).mono ?_
        rintro e w5 ⟨rfl, hr5, hu5⟩
        go_wp2
        go_roundw
        case rel => exact ⟨k + n, by have := HRN.out; omega, by rw [HDD.out n], hR.out _ hr5, hup4.trans hu5⟩
        case measure => simp only [strLen, str_size, List.length_drop]; omega
      · have hz : (((L : Int) + (n : Int)) % 64 == 0) = false := by have := HR.out; rw [beq_eq_false_iff_ne]; omega
        have hset : RowIs (w3.setCell ⟨b, 139, none⟩ (.int .i64 ((L : Int) + (n : Int)))) b 277 (digRow 1 0 kTab (absorb bk (L / 64)).list (over blk r (rest.take n)) (L + n)) := by
          have := hr3.set 139 (.int .i64 ((L + n : Nat) : Int))
          rw [digRow_setLen (L + n) kTab_len (list_len _) hob] at this
          exact this
        have hR : Hid (Ready (w3.setCell ⟨b, 139, none⟩ (.int .i64 ((L : Int) + (n : Int)))) b (bs ++ l.take (k + n))) := by
          rw [HBS.out n (by have := HRN.out; omega)]
          have ha := add_some (bs := bk) (blk := blk) (p := rest.take n) hb (by rw [← HL.out]; exact hblk) (by rw [← HL.out, ← HR.out, hpl]; omega)
          rw [← HL.out, ← HR.out] at ha
          refine ⟨_, hob, ha.2, ?_⟩
          rw [ha.1, List.length_append, hpl, ← HL.out]
          exact hset
        have hup4 : Upon b w (w3.setCell ⟨b, 139, none⟩ (.int .i64 ((L : Int) + (n : Int)))) := hup3.setCell _ _
        have hcell4 := hset.cellAt (digRow_length (done := 1) (mu := 0) (len := L + n) kTab_len (list_len (absorb bk (L / 64))) hob)
        clear hset
        go_wp2
        go_roundw
        case rel => exact ⟨k + n, by have := HRN.out; omega, by rw [HDD.out n], hR.out, hup4⟩
        case measure => simp only [strLen, str_size, List.length_drop]; omega
    · have hkl : k = l.length := by omega
      have hR : Hid (Ready wr b (bs ++ l)) := by
        rw [hkl, List.take_length] at hrd
        exact hrd
      have hzero : ¬ 0 < (str (l.drop k)).size := by rw [str_size, List.length_drop]; omega
      clear hrd hkl
      go_wp2
      go_end0
      exact ⟨rfl, hR.out, hup⟩

end Go.Proofs.YtanghehmfagmfaaGreatDoor

/-
  A Digest that is built, and the contract of the closure inside Copy.
-/
namespace Go.Proofs.YtanghehmfagmfaaGreatDoor
open Go.RowKit
set_option linter.unusedVariables false
set_option maxRecDepth 100000

theorem fold_put : ∀ (cs : List Value) (k off : Nat) (row : List Value), off + k + cs.length ≤ row.length → (cs.zipIdx k).foldl (fun (acc : Array Value) p => acc.setIfInBounds (off + p.2) p.1) row.toArray = (putAt row (off + k) cs).toArray
  | [], k, off, row, _ => by simp [putAt]
  | c :: r, k, off, row, h => by
    rw [List.zipIdx_cons, List.foldl_cons, List.setIfInBounds_toArray, fold_put r (k + 1) off (row.set (off + k) c) (by simp at h ⊢; omega)]
    have e := list_seg_step row (off + k) c r (by simpa using h)
    unfold putAt
    rw [show off + (k + 1) = off + k + 1 from by omega, e, List.length_cons]
theorem fill_step (place : Nat → Option (Nat × Nat)) (row cs : List Value) (i off : Nat) (rest : List (Nat × Value)) (hp : place i = some (off, cs.length)) (hl : off + cs.length ≤ row.length) (v : Value) (hv : v.cells = cs.toArray) :
    Instr.fill place row.toArray ((i, v) :: rest) = Instr.fill place (putAt row off cs).toArray rest := by
  have hf := fold_put cs 0 off row (by omega)
  rw [Nat.add_zero] at hf
  rw [Instr.fill, hp]
  simp only [hv]
  rw [if_neg (by simp; omega)]
  congr 1
  rw [← hf]
  simp

def digZero : List Value := digRow 0 0 z64 z8 (zeros8 64) 0
theorem zero43 : (Tryz.prog.info? 277).map (·.zero) = some (some (.agg digZero.toArray)) := by kernel_rfl
theorem run_alloc43 (w : World) : (Instr.alloc 277 true (.tuple #[])).run Tryz.prog w = .ok (.pointer (some ⟨w.heap.size, 0, none⟩)) (w.alloc (.cells digZero.toArray 277)) := by
  obtain ⟨i, hi, hz⟩ := zero_parts zero43
  exact run_alloc_zero _ i _ hi hz w
theorem fresh_new (w : World) : DigAt (w.alloc (.cells digZero.toArray 277)) w.heap.size [] :=
  Or.inr ⟨rfl, z64, z8, zeros8 64, rfl, rfl, rfl, RowIs.new w _ _⟩
def places43 : List (Nat × Nat) := [(0, 3), (3, 64), (67, 8), (75, 64), (139, 1)]
theorem fields43 : (match Tryz.prog.underlying 277 with | some (.struct fields) => fields.toList.mapM (fun f => (Tryz.prog.info? f.type).map fun i => (f.offset, i.size)) | _ => none) = some places43 := by kernel_rfl
end Go.Proofs.YtanghehmfagmfaaGreatDoor

/-
  The contract of the closure inside Copy.
-/
namespace Go.Proofs.YtanghehmfagmfaaGreatDoor
open Go.RowKit
set_option linter.unusedVariables false
set_option maxRecDepth 100000

theorem cell_setCells_block {w : World} {b g o p : Nat} {vs : List Value} {x : Value} (h : w.cell? ⟨g, p, none⟩ = some x) (hn : g ≠ b) : (w.setCells b o vs).cell? ⟨g, p, none⟩ = some x :=
  (World.cell?_setCells_out b vs o w ⟨g, p, none⟩ (fun e _ => absurd e hn)).trans h
theorem range_setCells_block {w : World} {b g o p : Nat} {vs cs : List Value} (h : w.rangeAt g p cs) (hn : g ≠ b) : (w.setCells b o vs).rangeAt g p cs :=
  World.rangeAt_setCells_apart h _ _ _ (Or.inl hn)

theorem cell_nested {w : World} {c g p : Nat} {u0 u1 u2 u3 u4 u5 u6 u7 x : Value} (h : w.cell? ⟨g, p, none⟩ = some x) (hn : g ≠ c) : ((((((((w.setCell ⟨c, 67, none⟩ u0).setCell ⟨c, 68, none⟩ u1).setCell ⟨c, 69, none⟩ u2).setCell ⟨c, 70, none⟩ u3).setCell ⟨c, 71, none⟩ u4).setCell ⟨c, 72, none⟩ u5).setCell ⟨c, 73, none⟩ u6).setCell ⟨c, 74, none⟩ u7).cell? ⟨g, p, none⟩ = some x :=
  cell_setCells_block (o := 67) (vs := [u0, u1, u2, u3, u4, u5, u6, u7]) h hn
theorem range_nested {w : World} {c g p : Nat} {u0 u1 u2 u3 u4 u5 u6 u7 : Value} {cs : List Value} (h : w.rangeAt g p cs) (hn : g ≠ c) : ((((((((w.setCell ⟨c, 67, none⟩ u0).setCell ⟨c, 68, none⟩ u1).setCell ⟨c, 69, none⟩ u2).setCell ⟨c, 70, none⟩ u3).setCell ⟨c, 71, none⟩ u4).setCell ⟨c, 72, none⟩ u5).setCell ⟨c, 73, none⟩ u6).setCell ⟨c, 74, none⟩ u7).rangeAt g p cs :=
  range_setCells_block (o := 67) (vs := [u0, u1, u2, u3, u4, u5, u6, u7]) h hn

set_option maxRecDepth 100000 in
set_option maxHeartbeats 1000000 in
theorem dig_copyIn (b c pd pc : Nat) (kc : List Value) (x0 x1 x2 x3 x4 x5 x6 x7 : Int) (y0 y1 y2 y3 y4 y5 y6 y7 : Value) (w : World) (hbc : b ≠ c) (hdc : pd ≠ c) (hcc : pc ≠ c) (hkl : kc.length = 64) (hk1 : ∀ v ∈ kc, v.oneCell' = true)
    (h1 : w.cell? ⟨pd, 0, none⟩ = some (.pointer (some ⟨b, 0, none⟩))) (h2 : w.cell? ⟨pc, 0, none⟩ = some (.pointer (some ⟨c, 0, none⟩)))
    (h3 : w.rangeAt b 3 kc) (h4 : w.rangeAt b 67 (cells32 [x0, x1, x2, x3, x4, x5, x6, x7])) (h5 : w.there c 3 64) (h6 : w.rangeAt c 67 [y0, y1, y2, y3, y4, y5, y6, y7]) (h7 : ∀ j, w.frozen? ⟨c, j, none⟩ = false) :
    Calls Tryz.prog 253 #[.pointer (some ⟨pd, 0, none⟩), .pointer (some ⟨pc, 0, none⟩)] w fun e w' => e = .returned (.tuple #[]) ∧ w' = (w.drew.setCells c 3 kc).setCells c 67 (cells32 [x0, x1, x2, x3, x4, x5, x6, x7]) := by
  have hu := Tryz.underlying247
  have hi : (Tryz.prog.info? 247).map (·.size) = some kc.length := by rw [size64, hkl]
  have b0 : w.cell? ⟨b, 67, none⟩ = some (.int .u32 x0) := h4 0 _ rfl
  have b1 : w.cell? ⟨b, 68, none⟩ = some (.int .u32 x1) := h4 1 _ rfl
  have b2 : w.cell? ⟨b, 69, none⟩ = some (.int .u32 x2) := h4 2 _ rfl
  have b3 : w.cell? ⟨b, 70, none⟩ = some (.int .u32 x3) := h4 3 _ rfl
  have b4 : w.cell? ⟨b, 71, none⟩ = some (.int .u32 x4) := h4 4 _ rfl
  have b5 : w.cell? ⟨b, 72, none⟩ = some (.int .u32 x5) := h4 5 _ rfl
  have b6 : w.cell? ⟨b, 73, none⟩ = some (.int .u32 x6) := h4 6 _ rfl
  have b7 : w.cell? ⟨b, 74, none⟩ = some (.int .u32 x7) := h4 7 _ rfl
  have hd5 : w.drew.there c 3 64 := (World.there_drew _ _ _ _).2 h5
  have hr6 : (w.drew.setCells c 3 kc).rangeAt c 67 [y0, y1, y2, y3, y4, y5, y6, y7] := World.rangeAt_setCells_apart ((World.rangeAt_drew _ _ _ _).2 h6) _ _ _ (by omega)
  have e0 : (w.drew.setCells c 3 kc).cell? ⟨c, 67, none⟩ = some y0 := hr6 0 _ rfl
  have e1 : (w.drew.setCells c 3 kc).cell? ⟨c, 68, none⟩ = some y1 := hr6 1 _ rfl
  have e2 : (w.drew.setCells c 3 kc).cell? ⟨c, 69, none⟩ = some y2 := hr6 2 _ rfl
  have e3 : (w.drew.setCells c 3 kc).cell? ⟨c, 70, none⟩ = some y3 := hr6 3 _ rfl
  have e4 : (w.drew.setCells c 3 kc).cell? ⟨c, 71, none⟩ = some y4 := hr6 4 _ rfl
  have e5 : (w.drew.setCells c 3 kc).cell? ⟨c, 72, none⟩ = some y5 := hr6 5 _ rfl
  have e6 : (w.drew.setCells c 3 kc).cell? ⟨c, 73, none⟩ = some y6 := hr6 6 _ rfl
  have e7 : (w.drew.setCells c 3 kc).cell? ⟨c, 74, none⟩ = some y7 := hr6 7 _ rfl
  have z : ∀ j, (w.drew.setCells c 3 kc).frozen? ⟨c, j, none⟩ = false := fun j => by rw [World.frozen?_setCells]; exact h7 j
  clear h4 h6 hr6 h7
  go_enter Tryz.func253, Tryz.ntmps253
  go_region_held3 (fun w' => w'.cell? ⟨pd, 0, none⟩ = some (.pointer (some ⟨b, 0, none⟩)) ∧ w'.cell? ⟨pc, 0, none⟩ = some (.pointer (some ⟨c, 0, none⟩)) ∧ w'.rangeAt b 3 kc ∧ w'.cell? ⟨b, 67, none⟩ = some (.int .u32 x0) ∧ w'.cell? ⟨b, 68, none⟩ = some (.int .u32 x1) ∧ w'.cell? ⟨b, 69, none⟩ = some (.int .u32 x2) ∧ w'.cell? ⟨b, 70, none⟩ = some (.int .u32 x3) ∧ w'.cell? ⟨b, 71, none⟩ = some (.int .u32 x4) ∧ w'.cell? ⟨b, 72, none⟩ = some (.int .u32 x5) ∧ w'.cell? ⟨b, 73, none⟩ = some (.int .u32 x6) ∧ w'.cell? ⟨b, 74, none⟩ = some (.int .u32 x7)) ((go_split_ands; (refine ⟨?_, ?_, ?_, ?_, ?_, ?_, ?_, ?_, ?_, ?_, ?_⟩ <;> first | (with_reducible assumption) | (simp only [World.rangeAt_drew, World.cell?_drew]; with_reducible assumption) | (with_reducible exact range_setCells_block (by assumption) (by assumption)) | (with_reducible exact cell_setCells_block (by assumption) (by assumption)) | (with_reducible exact range_nested (by assumption) (by assumption)) | (with_reducible exact cell_nested (by assumption) (by assumption))))) (fail)
  go_wp2
  go_end0
  exact ⟨rfl, rfl⟩

end Go.Proofs.YtanghehmfagmfaaGreatDoor

/-
  The contract of a Digest's Copy.
-/
namespace Go.Proofs.YtanghehmfagmfaaGreatDoor
open Go.RowKit
set_option linter.unusedVariables false
set_option maxRecDepth 100000

theorem callFunc_copyIn (args : Array Value) (w : World) : (callFunc 253 args).run Tryz.prog w = .ok (.enter 253 args) w := by
  simp [go_sem]
theorem cell_upon {b g p : Nat} {w w' : World} {x : Value} (h : Upon b w w') (hc : w.cell? ⟨g, p, none⟩ = some x) (hg : g ≠ b) : w'.cell? ⟨g, p, none⟩ = some x := by
  have hl : g < w.heap.size := World.block_lt_of_cell? w _ hc
  rw [← hc]
  exact World.cell?_of_block (w := w) (h.block g hl hg)

theorem cell_alloc {w : World} {a : Addr} {x : Value} {o : Obj} (h : w.cell? a = some x) : (w.alloc o).cell? a = some x := by
  rw [World.cell?_alloc_lt _ _ _ (World.block_lt_of_cell? w _ h)]; exact h
/-- The cells of a Digest that is built of a block and a length. -/
def digMade (bc : List Value) (n : Int) : List Value := putAt (putAt digZero 75 bc) 139 [.int .i64 n]
theorem digMade_row (blk : List UInt8) (hb : blk.length = 64) (L : Nat) : digMade (cells8 blk) (L : Int) = digRow 0 0 z64 z8 blk L := by
  have e : putAt digZero 75 (cells8 blk) = digRow 0 0 z64 z8 blk 0 := by
    have := digRow_putBlk (done := 0) (mu := 0) (tab := z64) (st := z8) (blk := zeros8 64) (len := 0) 0 blk z64_len z8_len (by rw [zeros8_len]; omega)
    rw [Nat.add_zero] at this
    rw [digZero, this]
    congr 1
    simp [over, zeros8, hb]
  rw [digMade, e, ← digRow_setLen (done := 0) (mu := 0) (len := 0) L z64_len z8_len hb]
  unfold putAt
  rw [List.set_eq_take_append_cons_drop, if_pos (by rw [digRow_len z64_len z8_len hb]; omega)]
  simp
theorem digZero_len : digZero.length = 140 := digRow_len z64_len z8_len (zeros8_len 64)
theorem built43' (bc : List Value) (n : Int) (hb : bc.length = 64) : Tryz.prog.built 277 [(3, .agg bc.toArray), (4, .int .i64 n)] = some (digMade bc n).toArray := by
  obtain ⟨i, hi, hz⟩ := zero_parts zero43
  have hf := fields43
  unfold Program.built
  cases hu : Tryz.prog.underlying 277 with
  | none => rw [hu] at hf; simp at hf
  | some d =>
    rw [hu] at hf
    cases d with
    | struct fields =>
      simp only at hf
      simp only [hi, hz, hf]
      rw [show (Value.agg digZero.toArray).cells = digZero.toArray from rfl]
      rw [fill_step _ digZero bc 3 75 _ (by rw [hb]; rfl) (by rw [hb, digZero_len]; omega) _ rfl]
      rw [fill_step _ (putAt digZero 75 bc) [.int .i64 n] 4 139 _ rfl (by simp [putAt, hb, digZero_len]) _ rfl, Instr.fill]
      rfl
    | _ => simp at hf
theorem run_build43' (bc : List Value) (n : Int) (w : World) (hb : bc.length = 64) : (Instr.build 277 #[(3, .agg bc.toArray), (4, .int .i64 n)]).run Tryz.prog w = .ok (.agg (digMade bc n).toArray) w :=
  run_build w _ _ _ (built43' bc n hb)
/-- The building of a Digest, kept shut till its parts are known. -/
def shutBuild (t : TypeId) (parts : Array (Nat × Value)) : Sem Value := Instr.build t parts
theorem to_shutBuild (parts : Array (Nat × Value)) : Instr.build 277 parts = shutBuild 277 parts := rfl
theorem run_shutBuild (bc : List Value) (n : Int) (w : World) (hb : bc.length = 64) : (shutBuild 277 #[(3, .agg bc.toArray), (4, .int .i64 n)]).run Tryz.prog w = .ok (.agg (digMade bc n).toArray) w := run_build43' bc n w hb
attribute [local go_sem ↓] to_shutBuild
attribute [local go_sem] run_shutBuild

/-- 'c.once.Do(..)' inside Copy: the new Digest is ready behind it. -/
theorem dig_copyDo (b c pd pc : Nat) (bs blk : List UInt8) (w : World) (hbc : b ≠ c) (hdc : pd ≠ c) (hcc : pc ≠ c) (hb : blk.length = 64) (hblk : blk.take (bs.length % 64) = bs.drop (64 * (bs.length / 64)))
    (h1 : w.cell? ⟨pd, 0, none⟩ = some (.pointer (some ⟨b, 0, none⟩))) (h2 : w.cell? ⟨pc, 0, none⟩ = some (.pointer (some ⟨c, 0, none⟩)))
    (hrow : RowIs w b 277 (digRow 1 0 kTab (absorb bs (bs.length / 64)).list blk bs.length)) (hnew : RowIs w c 277 (digRow 0 0 z64 z8 blk bs.length)) :
    Calls Tryz.prog 92 #[.pointer (some ⟨c, 0, none⟩), .func (.func 253) #[] #[.pointer (some ⟨pd, 0, none⟩), .pointer (some ⟨pc, 0, none⟩)]] w fun e w' => e = .returned (.tuple #[]) ∧ Ready w' c bs ∧ Upon c w w' := by
  have hn1 := hnew.set 1 (.int .i32 1)
  rw [digRow_set1] at hn1
  have hu1 : Upon c w (w.setCell ⟨c, 1, none⟩ (.int .i32 1)) := (Upon.refl c w).setCell 1 _
  have hr1 := hu1.row hrow hbc
  have g1 := cell_upon hu1 h1 hdc
  have g2 := cell_upon hu1 h2 hcc
  obtain ⟨s, hs⟩ : ∃ s, s = absorb bs (bs.length / 64) := ⟨_, rfl⟩
  rw [← hs] at hrow hr1
  obtain ⟨xa, xb, xc, xd, xe, xf, xg, xh⟩ := s
  have hc := dig_copyIn b c pd pc (cells32 kTab) xa xb xc xd xe xf xg xh (.int .u32 0) (.int .u32 0) (.int .u32 0) (.int .u32 0) (.int .u32 0) (.int .u32 0) (.int .u32 0) (.int .u32 0) (w.setCell ⟨c, 1, none⟩ (.int .i32 1)) hbc hdc hcc rfl (cells32_one _) g1 g2 (hr1.range (digRow_tab kTab_len)) (hr1.range (digRow_st kTab_len)) (hn1.there (by rw [digRow_len z64_len z8_len hb]; omega)) (hn1.range (digRow_st (st := z8) z64_len)) (fun j => hn1.frozen j)
  refine (once_first c 0 253 #[] #[.pointer (some ⟨pd, 0, none⟩), .pointer (some ⟨pc, 0, none⟩)] #[.pointer (some ⟨pd, 0, none⟩), .pointer (some ⟨pc, 0, none⟩)] (fun w' => RowIs w' c 277 (digRow 0 1 kTab [xa, xb, xc, xd, xe, xf, xg, xh] blk bs.length) ∧ Upon c w w') w (fun w' => callFunc_copyIn _ w') (hnew.cellAt (digRow_done _ _ _ _ _ _)) (hnew.cellAt (digRow_mu _ _ _ _ _ _)) (hnew.frozen _) (hnew.frozen _) ?_).mono ?_
  · refine hc.mono ?_
    rintro e w' ⟨rfl, rfl⟩
    have hr : RowIs (((w.setCell ⟨c, 1, none⟩ (.int .i32 1)).drew.setCells c 3 (cells32 kTab)).setCells c 67 (cells32 [xa, xb, xc, xd, xe, xf, xg, xh])) c 277 (digRow 0 1 kTab [xa, xb, xc, xd, xe, xf, xg, xh] blk bs.length) := by
      have e1 := hn1.drew.sets (cells32 kTab) 3 (by rw [digRow_len z64_len z8_len hb]; simp [cells32_len, kTab_len])
      rw [digRow_putTab kTab z64_len kTab_len] at e1
      have e2 := e1.sets (cells32 [xa, xb, xc, xd, xe, xf, xg, xh]) 67 (by rw [digRow_len kTab_len z8_len hb]; simp [cells32_len])
      rwa [digRow_putSt [xa, xb, xc, xd, xe, xf, xg, xh] kTab_len z8_len rfl] at e2
    exact ⟨rfl, hr.cellAt (digRow_done _ _ _ _ _ _), hr.cellAt (digRow_mu _ _ _ _ _ _), hr.frozen _, hr.frozen _, hr, (hu1.drew.setCells _ _).setCells _ _⟩
  · rintro e w' ⟨rfl, w1, ⟨hr, hu⟩, rfl⟩
    refine ⟨rfl, ⟨blk, hb, hblk, ?_⟩, (hu.drew.setCell 0 _).setCell 1 _⟩
    have := (hr.drew.set 0 (.int .u32 1)).set 1 (.int .i32 0)
    rw [digRow_set0, digRow_set1] at this
    rw [← hs]
    exact this

set_option maxRecDepth 100000 in
set_option maxHeartbeats 1000000 in
theorem dig_copy (b : Nat) (bs : List UInt8) (w : World) (h : DigAt w b bs) :
    Calls Tryz.prog 245 #[.pointer (some ⟨b, 0, none⟩)] w fun e w' => ∃ c, e = .returned (.pointer (some ⟨c, 0, none⟩)) ∧ w.heap.size ≤ c ∧ Ready w' c bs ∧ Ready w' b bs ∧ Upon b w w' := by
  have hmf : ∀ (fn : Fn) (first cap : Array Value) (w : World), (Instr.makeFunc fn first cap).run Tryz.prog w = .ok (.func fn first cap) w := fun _ _ _ _ => rfl
  have hblt := h.lt
  have hgb : w.heap.size ≠ b := by omega
  have c1 : (w.alloc (.cells #[.pointer (some ⟨b, 0, none⟩)] 278)).cell? ⟨w.heap.size, 0, none⟩ = some (.pointer (some ⟨b, 0, none⟩)) := by simp
  have h1 : DigAt (w.alloc (.cells #[.pointer (some ⟨b, 0, none⟩)] 278)) b bs := h.below ((Below.refl _ _).alloc (Nat.le_refl _) _)
  have hu1 : Upon b w (w.alloc (.cells #[.pointer (some ⟨b, 0, none⟩)] 278)) := (Upon.refl b w).alloc _
  have hs1 : w.heap.size < (w.alloc (.cells #[.pointer (some ⟨b, 0, none⟩)] 278)).heap.size := by simp
  go_enter Tryz.func245, Tryz.ntmps245
  go_wp2_with fail
  generalize w.alloc (.cells #[.pointer (some ⟨b, 0, none⟩)] 278) = w1 at *
  have h1d : DigAt w1.drew b bs := h1.kept rfl
  go_region_held3 (fun w' => w'.cell? ⟨w.heap.size, 0, none⟩ = some (.pointer (some ⟨b, 0, none⟩))) (first | (with_reducible assumption) | (simp only [World.cell?_drew]; with_reducible assumption) | exact cell_upon hu2 ((World.cell?_drew _ _).trans c1) hgb) (first | (go_at_call 92; refine (dig_ensure b bs _ h1d).mono ?_; rintro e w2 ⟨rfl, hrd, hu2⟩))
  have c2 : w2.cell? ⟨w.heap.size, 0, none⟩ = some (.pointer (some ⟨b, 0, none⟩)) := cell_upon hu2 ((World.cell?_drew _ _).trans c1) hgb
  have hu2' : Upon b w w2 := hu1.drew.trans hu2
  have hs2 : w.heap.size < w2.heap.size := Nat.lt_of_lt_of_le hs1 hu2.size
  clear hu1 hu2 h1 h1d c1 hs1 h
  obtain ⟨blk, hb, hblk, hrow⟩ := hrd
  have hll := digRow_length (done := 1) (mu := 0) (len := bs.length) kTab_len (list_len (absorb bs (bs.length / 64))) hb
  have hcl := hrow.cellAt hll
  have hrb := hrow.range (digRow_blk (done := 1) (mu := 0) (len := bs.length) (blk := blk) kTab_len (list_len (absorb bs (bs.length / 64))))
  have hbl : (cells8 blk).length = 64 := by rw [cells8_len, hb]
  have hu := Tryz.underlying275
  have hi : (Tryz.prog.info? 275).map (·.size) = some (cells8 blk).length := by rw [hbl]; kernel_rfl
  have HR : Hid (digMade (cells8 blk) (bs.length : Int) = digRow 0 0 z64 z8 blk bs.length) := digMade_row blk hb _
  generalize cells8 blk = bc at *
  go_wp2_with fail
  go_region_held3 (fun w' => w'.cell? ⟨w.heap.size, 0, none⟩ = some (.pointer (some ⟨b, 0, none⟩)) ∧ w'.rangeAt b 75 bc ∧ w'.cell? ⟨b, 139, none⟩ = some (.int .i64 (bs.length : Int))) ((go_split_ands; (try simp only [World.rangeAt_drew, World.cell?_drew]); (refine ⟨?_, ?_, ?_⟩ <;> first | (with_reducible assumption) | (with_reducible exact cell_alloc (by assumption)) | (with_reducible exact World.rangeAt_alloc (by assumption) _) | (with_reducible exact cell_alloc (cell_alloc (by assumption))) | (with_reducible exact World.rangeAt_alloc (World.rangeAt_alloc (by assumption) _) _)))) (fail)
  · have hn3 : RowIs ((w2.alloc (.cells (digMade bc (bs.length : Int)).toArray 277)).alloc (.cells #[.pointer (some ⟨w2.heap.size, 0, none⟩)] 278)).drew w2.heap.size 277 (digRow 0 0 z64 z8 blk bs.length) := by
      have := (RowIs.new w2 277 (digMade bc (bs.length : Int))).alloc (.cells #[.pointer (some ⟨w2.heap.size, 0, none⟩)] 278)
      rw [HR.out] at this ⊢
      exact this.drew
    have hp3 : ((w2.alloc (.cells (digMade bc (bs.length : Int)).toArray 277)).alloc (.cells #[.pointer (some ⟨w2.heap.size, 0, none⟩)] 278)).drew.cell? ⟨w2.heap.size + 1, 0, none⟩ = some (.pointer (some ⟨w2.heap.size, 0, none⟩)) := by
      simp
    have hg3 := cell_alloc (o := .cells #[.pointer (some ⟨w2.heap.size, 0, none⟩)] 278) (cell_alloc (o := .cells (digMade bc (bs.length : Int)).toArray 277) c2)
    have hr3 := ((hrow.alloc (.cells (digMade bc (bs.length : Int)).toArray 277)).alloc (.cells #[.pointer (some ⟨w2.heap.size, 0, none⟩)] 278)).drew
    have hu3 := ((hu2'.alloc (.cells (digMade bc (bs.length : Int)).toArray 277)).alloc (.cells #[.pointer (some ⟨w2.heap.size, 0, none⟩)] 278)).drew
    have hg3d := (World.cell?_drew ((w2.alloc (.cells (digMade bc (bs.length : Int)).toArray 277)).alloc (.cells #[.pointer (some ⟨w2.heap.size, 0, none⟩)] 278)) ⟨w.heap.size, 0, none⟩).trans hg3
    clear hrow hg3 hcl hrb
    generalize ((w2.alloc (.cells (digMade bc (bs.length : Int)).toArray 277)).alloc (.cells #[.pointer (some ⟨w2.heap.size, 0, none⟩)] 278)).drew = w3 at *
    go_wp2_with fail
    refine (dig_copyDo b w2.heap.size w.heap.size (w2.heap.size + 1) bs blk _ (by omega) (by omega) (by omega) hb hblk hg3d hp3 hr3 hn3).mono ?_
    rintro e w4 ⟨rfl, hrd4, hu4⟩
    have hp4 := cell_upon hu4 hp3 (by omega)
    have hr4 := hu4.row hr3 (by omega)
    have hu5 : Upon b w w4 := ⟨hu4.os.trans hu3.os, hu4.tape.trans hu3.tape, hu4.output.trans hu3.output, Nat.le_trans hu3.size hu4.size, fun i hi hib => (hu4.block i (Nat.lt_of_lt_of_le hi hu3.size) (by omega)).trans (hu3.block i hi hib)⟩
    go_wp2
    go_ret
    exact ⟨w2.heap.size, rfl, by omega, hrd4, ⟨blk, hb, hblk, hr4⟩, hu5⟩
  · have hn3 : RowIs ((w2.alloc (.cells #[.pointer (some ⟨w2.heap.size + 1, 0, none⟩)] 278)).alloc (.cells (digMade bc (bs.length : Int)).toArray 277)).drew (w2.heap.size + 1) 277 (digRow 0 0 z64 z8 blk bs.length) := by
      have := (RowIs.new (w2.alloc (.cells #[.pointer (some ⟨w2.heap.size + 1, 0, none⟩)] 278)) 277 (digMade bc (bs.length : Int))).drew
      rw [show (w2.alloc (.cells #[.pointer (some ⟨w2.heap.size + 1, 0, none⟩)] 278)).heap.size = w2.heap.size + 1 from by simp] at this
      rw [HR.out] at this ⊢
      exact this
    have hp3 : ((w2.alloc (.cells #[.pointer (some ⟨w2.heap.size + 1, 0, none⟩)] 278)).alloc (.cells (digMade bc (bs.length : Int)).toArray 277)).drew.cell? ⟨w2.heap.size, 0, none⟩ = some (.pointer (some ⟨w2.heap.size + 1, 0, none⟩)) := (World.cell?_drew _ _).trans (cell_alloc ((RowIs.new w2 278 [.pointer (some ⟨w2.heap.size + 1, 0, none⟩)]).cellAt (j := 0) rfl))
    have hg3 := cell_alloc (o := .cells (digMade bc (bs.length : Int)).toArray 277) (cell_alloc (o := .cells #[.pointer (some ⟨w2.heap.size + 1, 0, none⟩)] 278) c2)
    have hr3 := ((hrow.alloc (.cells #[.pointer (some ⟨w2.heap.size + 1, 0, none⟩)] 278)).alloc (.cells (digMade bc (bs.length : Int)).toArray 277)).drew
    have hu3 := ((hu2'.alloc (.cells #[.pointer (some ⟨w2.heap.size + 1, 0, none⟩)] 278)).alloc (.cells (digMade bc (bs.length : Int)).toArray 277)).drew
    have hg3d := (World.cell?_drew ((w2.alloc (.cells #[.pointer (some ⟨w2.heap.size + 1, 0, none⟩)] 278)).alloc (.cells (digMade bc (bs.length : Int)).toArray 277)) ⟨w.heap.size, 0, none⟩).trans hg3
    clear hrow hg3 hcl hrb
    generalize ((w2.alloc (.cells #[.pointer (some ⟨w2.heap.size + 1, 0, none⟩)] 278)).alloc (.cells (digMade bc (bs.length : Int)).toArray 277)).drew = w3 at *
    go_wp2_with fail
    refine (dig_copyDo b (w2.heap.size + 1) w.heap.size w2.heap.size bs blk _ (by omega) (by omega) (by omega) hb hblk hg3d hp3 hr3 hn3).mono ?_
    rintro e w4 ⟨rfl, hrd4, hu4⟩
    have hp4 := cell_upon hu4 hp3 (by omega)
    have hr4 := hu4.row hr3 (by omega)
    have hu5 : Upon b w w4 := ⟨hu4.os.trans hu3.os, hu4.tape.trans hu3.tape, hu4.output.trans hu3.output, Nat.le_trans hu3.size hu4.size, fun i hi hib => (hu4.block i (Nat.lt_of_lt_of_le hi hu3.size) (by omega)).trans (hu3.block i hi hib)⟩
    go_wp2
    go_ret
    exact ⟨w2.heap.size + 1, rfl, by omega, hrd4, ⟨blk, hb, hblk, hr4⟩, hu5⟩

end Go.Proofs.YtanghehmfagmfaaGreatDoor

/-
  The contracts of a Digest's Sum and Len, of those calls on no Digest, and of digest.Sum.
-/
namespace Go.Proofs.YtanghehmfagmfaaGreatDoor
open Go.RowKit
set_option linter.unusedVariables false
set_option maxRecDepth 100000

theorem upon_new {b c : Nat} {u v w : World} (h : Upon b u v) (k : Upon c v w) (hc : u.heap.size ≤ c) : Upon b u w :=
  ⟨k.os.trans h.os, k.tape.trans h.tape, k.output.trans h.output, Nat.le_trans h.size k.size, fun i hi hb => (k.block i (Nat.lt_of_lt_of_le hi h.size) (by omega)).trans (h.block i hi hb)⟩
theorem Ready.upon {w w' : World} {b c : Nat} {bs : List UInt8} (h : Ready w b bs) (hu : Upon c w w') (hc : b ≠ c) : Ready w' b bs := h.kept (hu.block b h.lt hc)
theorem Ready.below {w w' : World} {b : Nat} {bs : List UInt8} (h : Ready w b bs) (hb : Below w.heap.size w w') : Ready w' b bs := h.kept (hb.block b h.lt)
theorem list_w {s : S8} (h : s.ok) : ∀ x ∈ s.list, W32 x := by
  obtain ⟨h1, h2, h3, h4, h5, h6, h7, h8⟩ := h
  intro x hx
  simp only [S8.list, List.mem_cons, List.not_mem_nil, or_false] at hx
  rcases hx with rfl | rfl | rfl | rfl | rfl | rfl | rfl | rfl <;> assumption
theorem toldTo_told (s : S8) : toldTo s.list 8 = told s := by
  unfold toldTo told
  rw [List.take_of_length_le (by rw [list_len]; omega)]
theorem sha_of (bs : List UInt8) : toldTo (absorb (bs ++ padL bs.length) ((bs ++ padL bs.length).length / 64)).list 8 = shaL bs := by
  rw [toldTo_told, shaL, List.length_append, padL_len, Nat.add_assoc]
theorem Ready.st {w : World} {b : Nat} {bs : List UInt8} (h : Ready w b bs) : w.rangeAt b 67 (cells32 (absorb bs (bs.length / 64)).list) := by
  obtain ⟨blk, hb, _, hr⟩ := h
  exact hr.range (digRow_st kTab_len)
theorem Ready.len {w : World} {b : Nat} {bs : List UInt8} (h : Ready w b bs) : w.cell? ⟨b, 139, none⟩ = some (.int .i64 (bs.length : Int)) := by
  obtain ⟨blk, hb, _, hr⟩ := h
  exact hr.cellAt (digRow_length kTab_len (list_len _) hb)
theorem DigAt.len {w : World} {b : Nat} {bs : List UInt8} (h : DigAt w b bs) : w.cell? ⟨b, 139, none⟩ = some (.int .i64 (bs.length : Int)) := by
  rcases h with h | ⟨rfl, tab, st, blk, ht, hs, hb, hr⟩
  · exact h.len
  · exact hr.cellAt (digRow_length ht hs hb)

set_option maxRecDepth 100000 in
set_option maxHeartbeats 1000000 in
theorem dig_sum (b : Nat) (bs : List UInt8) (w : World) (h : DigAt w b bs) (hlen : bs.length ≤ 288230376151711744) :
    Calls Tryz.prog 241 #[.pointer (some ⟨b, 0, none⟩)] w fun e w' => e = .returned (.string (str (shaL bs))) ∧ Ready w' b bs ∧ Upon b w w' := by
  have hblt := h.lt
  go_enter Tryz.func241, Tryz.ntmps241
  go_wp2_with fail
  refine (dig_copy b bs _ h).mono ?_
  rintro e w1 ⟨c, rfl, hcn, hrc, hrb, hu1⟩
  clear h
  have hl := hrb.len
  have HL : Hid ((padL bs.length).length = 9 + padZ bs.length) := padL_len _
  have hz := padZ_lt bs.length
  have HS : Hid (toldTo (absorb (bs ++ padL bs.length) ((bs ++ padL bs.length).length / 64)).list 8 = shaL bs) := sha_of bs
  go_wp2_with fail
  refine (dig_padding bs.length _ (by omega)).mono ?_
  rintro e w2 ⟨rfl, hb2⟩
  have hrc2 := hrc.below hb2
  have hrb2 := hrb.below hb2
  have hu2 : Upon b w w2 := hu1.trans (Upon.of_below hb2)
  clear hrc hrb hb2 hu1 hl
  go_wp2_with fail
  refine (dig_add c bs (padL bs.length) _ (Or.inl hrc2) (by have := HL.out; omega)).mono ?_
  rintro e w3 ⟨rfl, hrc3, hu3⟩
  have hrb3 := hrb2.upon hu3 (by omega)
  have hu3' : Upon b w w3 := upon_new hu2 hu3 hcn
  clear hrc2 hrb2 hu2 hu3
  go_wp2_with fail
  refine (dig_told c _ _ (list_len _) (list_w (absorb_ok _ _)) hrc3.st hrc3.lt).mono ?_
  rintro e w4 ⟨rfl, hb4⟩
  rw [HS.out]
  have hrb4 := hrb3.below hb4
  have hu4 : Upon b w w4 := hu3'.trans (Upon.of_below hb4)
  go_wp2
  go_ret
  exact ⟨rfl, hrb4, hu4⟩

set_option maxRecDepth 100000 in
set_option maxHeartbeats 1000000 in
theorem digest_sum (s : ByteArray) (w : World) (hlen : s.size ≤ 288230376151711744) :
    Calls Tryz.prog 225 #[.string s] w fun e w' => e = .returned (.string (shaS s)) ∧ Below w.heap.size w w' := by
  have hsb := str_back s
  obtain ⟨l, rfl⟩ : ∃ l, s = str l := ⟨_, hsb.symm⟩
  have HSH : Hid (shaS (str l) = str (shaL l)) := by unfold shaS str; rfl
  rw [str_size] at hlen
  clear hsb
  go_enter Tryz.func225, Tryz.ntmps225
  go_wp2_with (refine wpList_alloc rfl rfl run_alloc43 ?_)
  have hd := fresh_new w
  have hb1 : Below w.heap.size w (w.alloc (.cells digZero.toArray 277)) := (Below.refl _ _).alloc (Nat.le_refl _) _
  have hs1 : w.heap.size < (w.alloc (.cells digZero.toArray 277)).heap.size := by simp
  generalize w.alloc (.cells digZero.toArray 277) = w1 at *
  refine (dig_add w.heap.size [] l _ hd (by simp; omega)).mono ?_
  rintro e w2 ⟨rfl, hr2, hu2⟩
  rw [List.nil_append] at hr2
  have hb2 : Below w.heap.size w w2 := hb1.trans (hu2.below (Nat.le_refl _) (by omega))
  clear hd hb1
  go_wp2_with fail
  refine (dig_sum w.heap.size l _ (Or.inl hr2) hlen).mono ?_
  rintro e w3 ⟨rfl, hr3, hu3⟩
  have hb3 : Below w.heap.size w w3 := hb2.trans (hu3.below (Nat.le_refl _) (Nat.le_of_lt (Nat.lt_of_lt_of_le hs1 hu2.size)))
  go_wp2
  go_ret
  exact ⟨ret_str HSH.out.symm, hb3⟩

end Go.Proofs.YtanghehmfagmfaaGreatDoor

/-
  The laws' own first call 'alive' of chapter 2 answers true.
-/
namespace Go.Proofs.YtanghehmfagmfaaGreatDoor
open Go.RowKit
set_option linter.unusedVariables false
set_option maxRecDepth 100000

theorem shaS_str (l : List UInt8) : shaS (str l) = str (shaL l) := by unfold shaS str; rfl
theorem bel_chain {w w1 w2 : World} (h1 : Below w.heap.size w w1) (h2 : Below w1.heap.size w1 w2) : Below w.heap.size w w2 := h1.trans (h2.mono h1.size)

end Go.Proofs.YtanghehmfagmfaaGreatDoor

/-
  The blocks of the reference's Sum (the loop in block 2).
-/
namespace Go.Proofs.YtanghehmfagmfaaGreatDoor
open Go.RowKit
set_option linter.unusedVariables false
set_option maxRecDepth 100000

theorem info32D : (Tryz.prog.info? 73).map (fun i => (i.zero, i.size, i.bytes)) = some (some (.int .u32 0), 1, 4) := by kernel_rfl
theorem plus_at (s t : S8) (j : Nat) (hj : j < 8) : (s.plus t).list.getD j 0 = (s.list.getD j 0 + t.list.getD j 0) % 4294967296 := by
  match j, hj with
  | 0, _ => rfl
  | 1, _ => rfl
  | 2, _ => rfl
  | 3, _ => rfl
  | 4, _ => rfl
  | 5, _ => rfl
  | 6, _ => rfl
  | 7, _ => rfl
theorem upon_range {b g o : Nat} {w w' : World} {cs : List Value} (h : Upon b w w') (hr : w.rangeAt g o cs) (hg : g < w.heap.size) (hn : g ≠ b) : w'.rangeAt g o cs := fun j v hv => by
  rw [← hr j v hv]
  exact World.cell?_of_block (w := w) (h.block g hg hn)
theorem owns_range {w : World} {base g n cap : Nat} {t : TypeId} {xs : List Value} (h : w.ownsRow base t 1 (.slice (some ⟨g, 0, none⟩) n cap) n xs) : w.rangeAt g 0 xs := by
  obtain ⟨h1, h2⟩ := h
  rcases h2 with ⟨h2, _⟩ | ⟨g', cap', cur, hv, hg, hh, hn, hm, hc, hx⟩
  · cases h2
  · simp only [Value.slice.injEq, Option.some.injEq, Addr.mk.injEq] at hv
    obtain ⟨⟨rfl, _⟩, _⟩ := hv
    intro j v hjv
    rw [Nat.zero_add, ← hx] at *
    simp only [World.cell?, hh]
    rw [List.getElem?_take] at hjv
    split at hjv
    · simpa using hjv
    · cases hjv

set_option maxRecDepth 1000000 in
set_option maxHeartbeats 4000000 in
theorem ref_blocks (c0 c1 c2 c7 c8 c9 c10 c11 c12 c13 c14 c15 c16 c17 c18 c19 c20 c21 c22 c23 c24 c25 c26 c27 c28 c29 c30 c31 c32 c33 c34 c35 c36 c37 c38 c39 c40 c41 c42 c43 c44 c45 c46 c47 c48 c49 c50 c51 c52 c53 c54 c55 c56 c57 c58 c59 c60 c61 c62 c63 c64 c65 c66 c67 c68 c69 c70 c71 c72 c73 c74 c75 c76 c77 c78 c79 c80 c81 c82 c83 c84 c85 c86 c87 c88 c89 c90 c91 c92 c93 c94 c95 c96 c97 c98 c99 c100 c101 c102 c103 c104 c105 c106 c107 c108 c109 c110 c111 c112 c113 c114 c115 c116 c117 c118 c119 c120 c121 c122 c123 c124 c125 c126 c127 c128 c129 c130 c131 c132 c133 c134 c135 c136 c137 c138 c139 c140 c141 c142 c143 c144 c145 c146 c147 c148 c149 c150 c151 c152 c153 c154 c155 c156 c157 c158 c159 c160 c161 c162 c163 c164 c165 c166 c167 c168 c169 c170 c171 c172 c173 c174 c175 c176 c177 c178 c179 c180 c181 c182 c183 c184 c185 c186 c187 c188 c189 c190 c191 c192 c193 c194 c195 c196 c197 c198 c199 c200 c201 c202 c203 c204 c205 c206 c207 c208 c209 c210 c211 c212 c213 c214 c215 c216 c217 c218 c219 c220 c221 c222 c223 c224 c225 c226 c227 c228 c229 c230 c231 c232 c233 c234 : Value) (gt gh : Nat) (all : List UInt8) (w : World) (Q0 : Exit → Act → World → Prop)
    (hall : all.length ≤ 1152921504606846976) (hmod : all.length % 64 = 0) (ht : w.rangeAt gt 0 (cells32 kTab)) (ht1 : gt < w.heap.size) (hne : gt ≠ gh) (hh : RowIs w gh 73 (cells32 hZero.list))
    (hexit : ∀ (d6 d7 d8 d9 d10 d11 d12 d13 d14 d15 d16 d17 d18 d19 d39 d40 d41 d42 d43 d44 d45 d46 d47 d48 d49 d50 d51 d52 d53 d54 d55 d56 d57 d58 d59 d60 d61 d62 d63 d64 d65 d66 d67 d68 d69 d70 d71 d72 d73 d74 d75 d76 d77 d78 d79 d80 d81 d82 d83 d84 d85 d86 d87 d88 d89 d90 d91 d92 d93 d94 d95 d96 d97 d98 d99 d100 d101 d102 d103 d104 d105 d106 d107 d108 d109 d110 d111 d112 d113 d114 d115 d116 d117 d118 d119 d120 d121 d122 d123 d124 d125 d126 d127 d128 d129 d130 d131 d132 d133 d134 d135 d136 d137 d138 d139 d140 d141 d142 d143 d144 d145 d146 d147 d148 d149 d150 d151 d152 d153 d154 d155 d156 d157 d158 d159 d160 d161 d162 d163 d164 d165 d166 d167 d168 d169 d170 d171 d172 d173 d174 d175 d176 d177 d178 d179 d180 d181 d182 d183 d184 d185 d186 d187 d188 d189 d190 d191 d192 d193 d194 d195 d196 d197 d198 d199 d200 d201 d202 d203 d204 d205 d206 d207 d208 d209 d210 d211 d212 d213 d214 d215 d216 d217 d218 d219 d220 d221 : Value) (w' : World), RowIs w' gh 73 (cells32 (absorb all (all.length / 64)).list) → Upon gh w w' → Q0 (.exit 2) ⟨(List.toArray (c0 :: c1 :: c2 :: .slice (some ⟨gt, 0, none⟩) 64 64 :: .slice (some ⟨gh, 0, none⟩) 8 8 :: .string (str all) :: d6 :: d7 :: d8 :: d9 :: d10 :: d11 :: d12 :: d13 :: d14 :: d15 :: d16 :: d17 :: d18 :: d19 :: c20 :: c21 :: c22 :: c23 :: c24 :: c25 :: c26 :: c27 :: c28 :: c29 :: c30 :: c31 :: c32 :: c33 :: c34 :: c35 :: c36 :: c37 :: c38 :: d39 :: d40 :: d41 :: d42 :: d43 :: d44 :: d45 :: d46 :: d47 :: d48 :: d49 :: d50 :: d51 :: d52 :: d53 :: d54 :: d55 :: d56 :: d57 :: d58 :: d59 :: d60 :: d61 :: d62 :: d63 :: d64 :: d65 :: d66 :: d67 :: d68 :: d69 :: d70 :: d71 :: d72 :: d73 :: d74 :: d75 :: d76 :: d77 :: d78 :: d79 :: d80 :: d81 :: d82 :: d83 :: d84 :: d85 :: d86 :: d87 :: d88 :: d89 :: d90 :: d91 :: d92 :: d93 :: d94 :: d95 :: d96 :: d97 :: d98 :: d99 :: d100 :: d101 :: d102 :: d103 :: d104 :: d105 :: d106 :: d107 :: d108 :: d109 :: d110 :: d111 :: d112 :: d113 :: d114 :: d115 :: d116 :: d117 :: d118 :: d119 :: d120 :: d121 :: d122 :: d123 :: d124 :: d125 :: d126 :: d127 :: d128 :: d129 :: d130 :: d131 :: d132 :: d133 :: d134 :: d135 :: d136 :: d137 :: d138 :: d139 :: d140 :: d141 :: d142 :: d143 :: d144 :: d145 :: d146 :: d147 :: d148 :: d149 :: d150 :: d151 :: d152 :: d153 :: d154 :: d155 :: d156 :: d157 :: d158 :: d159 :: d160 :: d161 :: d162 :: d163 :: d164 :: d165 :: d166 :: d167 :: d168 :: d169 :: d170 :: d171 :: d172 :: d173 :: d174 :: d175 :: d176 :: d177 :: d178 :: d179 :: d180 :: d181 :: d182 :: d183 :: d184 :: d185 :: d186 :: d187 :: d188 :: d189 :: d190 :: d191 :: d192 :: d193 :: d194 :: d195 :: d196 :: d197 :: d198 :: d199 :: d200 :: d201 :: d202 :: d203 :: d204 :: d205 :: d206 :: d207 :: d208 :: d209 :: d210 :: d211 :: d212 :: d213 :: d214 :: d215 :: d216 :: d217 :: d218 :: d219 :: d220 :: d221 :: c222 :: c223 :: c224 :: c225 :: c226 :: c227 :: c228 :: c229 :: c230 :: c231 :: c232 :: c233 :: c234 :: [])), []⟩ w') :
    Code.wp Tryz.prog ((Tryz.f187.body.bind (blkOf 2)).getD .skip) Q0 ⟨(List.toArray (c0 :: c1 :: c2 :: .slice (some ⟨gt, 0, none⟩) 64 64 :: .slice (some ⟨gh, 0, none⟩) 8 8 :: .string (str all) :: .int .i64 0 :: c7 :: c8 :: c9 :: c10 :: c11 :: c12 :: c13 :: c14 :: c15 :: c16 :: c17 :: c18 :: c19 :: c20 :: c21 :: c22 :: c23 :: c24 :: c25 :: c26 :: c27 :: c28 :: c29 :: c30 :: c31 :: c32 :: c33 :: c34 :: c35 :: c36 :: c37 :: c38 :: c39 :: c40 :: c41 :: c42 :: c43 :: c44 :: c45 :: c46 :: c47 :: c48 :: c49 :: c50 :: c51 :: c52 :: c53 :: c54 :: c55 :: c56 :: c57 :: c58 :: c59 :: c60 :: c61 :: c62 :: c63 :: c64 :: c65 :: c66 :: c67 :: c68 :: c69 :: c70 :: c71 :: c72 :: c73 :: c74 :: c75 :: c76 :: c77 :: c78 :: c79 :: c80 :: c81 :: c82 :: c83 :: c84 :: c85 :: c86 :: c87 :: c88 :: c89 :: c90 :: c91 :: c92 :: c93 :: c94 :: c95 :: c96 :: c97 :: c98 :: c99 :: c100 :: c101 :: c102 :: c103 :: c104 :: c105 :: c106 :: c107 :: c108 :: c109 :: c110 :: c111 :: c112 :: c113 :: c114 :: c115 :: c116 :: c117 :: c118 :: c119 :: c120 :: c121 :: c122 :: c123 :: c124 :: c125 :: c126 :: c127 :: c128 :: c129 :: c130 :: c131 :: c132 :: c133 :: c134 :: c135 :: c136 :: c137 :: c138 :: c139 :: c140 :: c141 :: c142 :: c143 :: c144 :: c145 :: c146 :: c147 :: c148 :: c149 :: c150 :: c151 :: c152 :: c153 :: c154 :: c155 :: c156 :: c157 :: c158 :: c159 :: c160 :: c161 :: c162 :: c163 :: c164 :: c165 :: c166 :: c167 :: c168 :: c169 :: c170 :: c171 :: c172 :: c173 :: c174 :: c175 :: c176 :: c177 :: c178 :: c179 :: c180 :: c181 :: c182 :: c183 :: c184 :: c185 :: c186 :: c187 :: c188 :: c189 :: c190 :: c191 :: c192 :: c193 :: c194 :: c195 :: c196 :: c197 :: c198 :: c199 :: c200 :: c201 :: c202 :: c203 :: c204 :: c205 :: c206 :: c207 :: c208 :: c209 :: c210 :: c211 :: c212 :: c213 :: c214 :: c215 :: c216 :: c217 :: c218 :: c219 :: c220 :: c221 :: c222 :: c223 :: c224 :: c225 :: c226 :: c227 :: c228 :: c229 :: c230 :: c231 :: c232 :: c233 :: c234 :: [])), []⟩ w := by
  conv => arg 2; whnf
  obtain ⟨i0, hi, hz0, hz1, hz2⟩ := info_parts info32D
  have HX : Hid (∀ (d6 d7 d8 d9 d10 d11 d12 d13 d14 d15 d16 d17 d18 d19 d39 d40 d41 d42 d43 d44 d45 d46 d47 d48 d49 d50 d51 d52 d53 d54 d55 d56 d57 d58 d59 d60 d61 d62 d63 d64 d65 d66 d67 d68 d69 d70 d71 d72 d73 d74 d75 d76 d77 d78 d79 d80 d81 d82 d83 d84 d85 d86 d87 d88 d89 d90 d91 d92 d93 d94 d95 d96 d97 d98 d99 d100 d101 d102 d103 d104 d105 d106 d107 d108 d109 d110 d111 d112 d113 d114 d115 d116 d117 d118 d119 d120 d121 d122 d123 d124 d125 d126 d127 d128 d129 d130 d131 d132 d133 d134 d135 d136 d137 d138 d139 d140 d141 d142 d143 d144 d145 d146 d147 d148 d149 d150 d151 d152 d153 d154 d155 d156 d157 d158 d159 d160 d161 d162 d163 d164 d165 d166 d167 d168 d169 d170 d171 d172 d173 d174 d175 d176 d177 d178 d179 d180 d181 d182 d183 d184 d185 d186 d187 d188 d189 d190 d191 d192 d193 d194 d195 d196 d197 d198 d199 d200 d201 d202 d203 d204 d205 d206 d207 d208 d209 d210 d211 d212 d213 d214 d215 d216 d217 d218 d219 d220 d221 : Value) (w' : World), RowIs w' gh 73 (cells32 (absorb all (all.length / 64)).list) → Upon gh w w' → Q0 (.exit 2) ⟨(List.toArray (c0 :: c1 :: c2 :: .slice (some ⟨gt, 0, none⟩) 64 64 :: .slice (some ⟨gh, 0, none⟩) 8 8 :: .string (str all) :: d6 :: d7 :: d8 :: d9 :: d10 :: d11 :: d12 :: d13 :: d14 :: d15 :: d16 :: d17 :: d18 :: d19 :: c20 :: c21 :: c22 :: c23 :: c24 :: c25 :: c26 :: c27 :: c28 :: c29 :: c30 :: c31 :: c32 :: c33 :: c34 :: c35 :: c36 :: c37 :: c38 :: d39 :: d40 :: d41 :: d42 :: d43 :: d44 :: d45 :: d46 :: d47 :: d48 :: d49 :: d50 :: d51 :: d52 :: d53 :: d54 :: d55 :: d56 :: d57 :: d58 :: d59 :: d60 :: d61 :: d62 :: d63 :: d64 :: d65 :: d66 :: d67 :: d68 :: d69 :: d70 :: d71 :: d72 :: d73 :: d74 :: d75 :: d76 :: d77 :: d78 :: d79 :: d80 :: d81 :: d82 :: d83 :: d84 :: d85 :: d86 :: d87 :: d88 :: d89 :: d90 :: d91 :: d92 :: d93 :: d94 :: d95 :: d96 :: d97 :: d98 :: d99 :: d100 :: d101 :: d102 :: d103 :: d104 :: d105 :: d106 :: d107 :: d108 :: d109 :: d110 :: d111 :: d112 :: d113 :: d114 :: d115 :: d116 :: d117 :: d118 :: d119 :: d120 :: d121 :: d122 :: d123 :: d124 :: d125 :: d126 :: d127 :: d128 :: d129 :: d130 :: d131 :: d132 :: d133 :: d134 :: d135 :: d136 :: d137 :: d138 :: d139 :: d140 :: d141 :: d142 :: d143 :: d144 :: d145 :: d146 :: d147 :: d148 :: d149 :: d150 :: d151 :: d152 :: d153 :: d154 :: d155 :: d156 :: d157 :: d158 :: d159 :: d160 :: d161 :: d162 :: d163 :: d164 :: d165 :: d166 :: d167 :: d168 :: d169 :: d170 :: d171 :: d172 :: d173 :: d174 :: d175 :: d176 :: d177 :: d178 :: d179 :: d180 :: d181 :: d182 :: d183 :: d184 :: d185 :: d186 :: d187 :: d188 :: d189 :: d190 :: d191 :: d192 :: d193 :: d194 :: d195 :: d196 :: d197 :: d198 :: d199 :: d200 :: d201 :: d202 :: d203 :: d204 :: d205 :: d206 :: d207 :: d208 :: d209 :: d210 :: d211 :: d212 :: d213 :: d214 :: d215 :: d216 :: d217 :: d218 :: d219 :: d220 :: d221 :: c222 :: c223 :: c224 :: c225 :: c226 :: c227 :: c228 :: c229 :: c230 :: c231 :: c232 :: c233 :: c234 :: [])), []⟩ w') := hexit
  have HM : Hid (all.length % 64 = 0) := hmod
  have HSZ : Hid ((str all).size = all.length) := str_size all
  have hszM : (str all).size ≤ 1152921504606846976 := by rw [HSZ.out]; exact hall
  clear hexit hmod
  go_loopw [6] (fun i wr => ∃ n at_ : Nat, Hid (at_ = 64 * n) ∧ at_ ≤ all.length ∧ i = .int .i64 at_ ∧ RowIs wr gh 73 (cells32 (absorb all n).list) ∧ Upon gh w wr) (fun i _ => all.length - (intOf i).toNat)
  case atStart => exact ⟨0, 0, rfl, by omega, rfl, hh, Upon.refl _ _⟩
  case round =>
    clear hh
    obtain ⟨n, at_, HA, hat, rfl, hrow, hup⟩ := hrel
    by_cases hlt : at_ < all.length
    · clear HX
      have hat64 : at_ + 64 ≤ all.length := by have := HM.out; have := HA.out; omega
      have hltS : at_ < (str all).size := by rw [HSZ.out]; exact hlt
      have hrz : RowIs (wr.alloc (.cells (cells32 z64).toArray 247)) wr.heap.size 247 (cells32 z64) := RowIs.new _ _ _
      have hgl := hrow.lt
      have hrow1 := hrow.alloc (.cells (cells32 z64).toArray 247)
      have hup1 := hup.alloc (.cells (cells32 z64).toArray 247)
      have hgt1 := Nat.lt_of_lt_of_le ht1 hup.size
      have hs1 : wr.heap.size < (wr.alloc (.cells (cells32 z64).toArray 247)).heap.size := by simp
      have HABS : Hid (absorb all (n + 1) = comp (absorb all n) ((all.drop at_).take 64)) := by rw [HA.out]; rfl
      have hsz0 : w.heap.size ≤ wr.heap.size := hup.size
      clear hrow hup
      go_wp2_with (refine wpList_allocN rfl rfl run_alloc64 wr.heap.size rfl ?_)
      generalize wr.alloc (.cells (cells32 z64).toArray 247) = w1 at *
      refine ref_schedule _ _ _ _ _ _ _ _ _ _ _ _ _ _ _ _ _ _ _ _ _ _ _ _ _ _ _ _ _ _ _ _ _ _ _ _ _ _ _ _ _ _ _ _ _ _ _ _ _ _ _ _ _ _ _ _ _ _ _ _ _ _ _ _ _ _ _ _ _ _ _ _ _ _ _ _ _ _ _ _ _ _ _ _ _ _ _ _ _ _ _ _ _ _ _ _ _ _ _ _ _ _ _ _ _ _ _ _ _ _ _ _ _ _ _ _ _ _ _ _ _ _ _ _ _ _ _ _ _ _ _ _ _ _ _ _ _ _ _ _ _ _ _ _ _ _ _ _ _ _ _ _ _ _ _ _ _ _ _ _ _ _ _ _ _ _ _ _ _ _ _ _ _ _ _ _ _ _ _ _ _ _ _ _ _ _ _ _ _ _ _ _ _ _ _ _ _ _ _ _ _ _ _ _ _ _ _ _ _ _ _ _ _ _ _ _ _ _ _ _ _ _ _ _ _ _ _ _ _ _ _ wr.heap.size at_ all _ _ hat64 hall hrz ?_
      intro f8 f9 f10 f11 f12 f45 f46 f47 f48 f49 f50 f51 f52 f53 f54 f55 f56 f57 f58 f59 f60 f61 f62 f63 f64 f65 f66 f67 f68 f69 f70 f71 f72 f73 f74 f75 f76 f77 f78 f79 f80 f81 f82 f83 f84 f85 f86 f87 f88 f89 f90 f91 f92 f93 f94 f95 f96 f97 f98 f99 f100 f101 f102 f103 f104 w2 hr2 hu2
      have hrow2 := hu2.row hrow1 (by omega)
      have hup2 : Upon gh w w2 := upon_new hup1 hu2 hsz0
      have hs2 : wr.heap.size < w2.heap.size := Nat.lt_of_lt_of_le hs1 hu2.size
      have hnews : ∀ j u, (cells32 (absorb all n).list)[j]? = some u → w2.cell? ((⟨gh, 0, none⟩ : Addr).add j) = some u := fun j u h => World.news_of_block hrow2 j u (by simpa using h)
      clear hrow1 hrz hup1 hu2
      go_wp2_with (at_builtin; refine wpList_append_lies (P := Tryz.prog) w2 rfl _ _ 192 rfl w2.heap.size 73 i0 (.int .u32 0) 1 4 Tryz.underlying192 hi hz0 hz1 hz2 rfl (by omega) (.slice none 0 0) 0 [] rfl ⟨rfl, Or.inl ⟨rfl, rfl⟩⟩ ⟨gh, 0, none⟩ 8 8 (cells32 (absorb all n).list) rfl (by rw [cells32_len]; rfl) hnews (cells32_one _) (by omega) (by unfold maxLen; omega) (by omega) (Nat.le_refl _) w2.heap.size rfl ?_; intro g cap w3 hown3 hgrow3 hat3 hlt3)
      have hb3 : Below w2.heap.size w2 w3 := (Below.refl _ _).grown hgrow3 (Nat.le_refl _) (by intro k hk; cases hk)
      have hg3 : w2.heap.size ≤ g := by
        rcases hat3 with h | h
        · cases h
        · omega
      rw [List.nil_append] at hown3
      have hv3 := owns_range hown3
      have hrow3 := hrow2.below hb3 hrow2.lt
      have hup3 : Upon gh w w3 := hup2.trans (Upon.of_below hb3)
      have hr3 := hr2.below hb3 hr2.lt
      have hs3 : wr.heap.size < w3.heap.size := Nat.lt_of_lt_of_le hs2 hb3.size
      have ht3 := upon_range hup3 ht ht1 hne
      clear hown3 hgrow3 hat3 hnews hrow2 hr2 hup2
      go_wp2_with fail
      refine ref_rounds _ _ _ _ _ _ _ _ _ _ _ _ _ _ _ _ _ _ _ _ _ _ _ _ _ _ _ _ _ _ _ _ _ _ _ _ _ _ _ _ _ _ _ _ _ _ _ _ _ _ _ _ _ _ _ _ _ _ _ _ _ _ _ _ _ _ _ _ _ _ _ _ _ _ _ _ _ _ _ _ _ _ _ _ _ _ _ _ _ _ _ _ _ _ _ _ _ _ _ _ _ _ _ _ _ _ _ _ _ _ _ _ _ _ _ _ _ _ _ _ _ _ _ _ _ _ _ _ _ _ _ _ _ _ _ _ _ _ _ _ _ _ _ _ _ _ _ _ _ _ _ _ _ _ _ _ _ _ _ _ _ _ _ _ _ _ _ _ _ _ _ _ _ _ _ _ _ _ _ _ _ _ _ _ _ _ _ _ _ _ _ _ _ _ _ _ _ _ _ _ _ _ _ _ _ _ _ _ _ _ _ _ _ _ _ _ _ _ _ _ _ _ _ _ _ _ _ _ _ _ _ gt wr.heap.size g cap kTab (wTo ((all.drop at_).take 64) 64) (absorb all n) (absorb_ok _ _) _ _ kTab_len (wTo_len _ _) ht3 (Nat.lt_of_lt_of_le ht1 hup3.size) (hr3.range (by rw [List.drop_zero, List.take_length])) hs3 hv3 hlt3 ?_
      intro h14 h15 h16 h17 h18 h107 h108 h109 h110 h111 h112 h113 h114 h115 h116 h117 h118 h119 h120 h121 h122 h123 h124 h125 h126 h127 h128 h129 h130 h131 h132 h133 h134 h135 h136 h137 h138 h139 h140 h141 h142 h143 h144 h145 h146 h147 h148 h149 h150 h151 h152 h153 h154 h155 h156 h157 h158 h159 h160 h161 h162 h163 h164 h165 h166 h167 h168 h169 h170 h171 h172 h173 h174 h175 h176 h177 h178 h179 h180 h181 h182 h183 h184 h185 h186 h187 h188 h189 h190 h191 h192 h193 h194 h195 h196 h197 h198 h199 h200 h201 h202 h203 h204 h205 g4 cap4 w4 hv4 hg4 hb4
      have hrow4 := hrow3.below hb4 hrow3.lt
      have hup4 : Upon gh w w4 := hup3.trans (Upon.of_below hb4)
      have hne4 : g4 ≠ gh := by
        have := hrow3.lt
        rcases hg4 with h | h <;> omega
      clear hrow3 hup3 hv3 hr3 ht3 hb4
      go_wp2_with fail
      refine ref_plus _ _ _ _ _ _ _ _ _ _ _ _ _ _ _ _ _ _ _ _ _ _ _ _ _ _ _ _ _ _ _ _ _ _ _ _ _ _ _ _ _ _ _ _ _ _ _ _ _ _ _ _ _ _ _ _ _ _ _ _ _ _ _ _ _ _ _ _ _ _ _ _ _ _ _ _ _ _ _ _ _ _ _ _ _ _ _ _ _ _ _ _ _ _ _ _ _ _ _ _ _ _ _ _ _ _ _ _ _ _ _ _ _ _ _ _ _ _ _ _ _ _ _ _ _ _ _ _ _ _ _ _ _ _ _ _ _ _ _ _ _ _ _ _ _ _ _ _ _ _ _ _ _ _ _ _ _ _ _ _ _ _ _ _ _ _ _ _ _ _ _ _ _ _ _ _ _ _ _ _ _ _ _ _ _ _ _ _ _ _ _ _ _ _ _ _ _ _ _ _ _ _ _ _ _ _ _ _ _ _ _ _ _ _ _ _ _ _ _ _ _ _ _ _ _ _ _ _ _ _ _ _ gh g4 cap4 (absorb all n).list (rnds kTab (wTo ((all.drop at_).take 64) 64) 64 (absorb all n)).list (absorb all (n + 1)).list _ _ (list_len _) (list_len _) (list_len _) hne4 ?_ hrow4 hv4 ?_
      · intro j hj
        rw [HABS.out]
        exact plus_at _ _ j hj
      intro k19 k206 k207 k208 k209 k210 k211 k212 k213 k214 k215 k216 k217 k218 k219 k220 k221 w5 hrow5 hu5
      have hup5 : Upon gh w w5 := hup4.trans hu5
      clear hrow4 hv4 hup4 hu5
      go_wp2
      go_roundw
      case rel => exact ⟨n + 1, at_ + 64, by have := HA.out; show _ = _; omega, hat64, by go_num, hrow5, hup5⟩
      case measure => simp [intOf]; omega
    · have hend : n = all.length / 64 := by have := HM.out; have := HA.out; omega
      have hge : ¬ at_ < (str all).size := by rw [HSZ.out]; exact hlt
      have hrow' : RowIs wr gh 73 (cells32 (absorb all (all.length / 64)).list) := by rw [← hend]; exact hrow
      clear hrow hend
      go_wp2
      exact HX.out _ _ _ _ _ _ _ _ _ _ _ _ _ _ _ _ _ _ _ _ _ _ _ _ _ _ _ _ _ _ _ _ _ _ _ _ _ _ _ _ _ _ _ _ _ _ _ _ _ _ _ _ _ _ _ _ _ _ _ _ _ _ _ _ _ _ _ _ _ _ _ _ _ _ _ _ _ _ _ _ _ _ _ _ _ _ _ _ _ _ _ _ _ _ _ _ _ _ _ _ _ _ _ _ _ _ _ _ _ _ _ _ _ _ _ _ _ _ _ _ _ _ _ _ _ _ _ _ _ _ _ _ _ _ _ _ _ _ _ _ _ _ _ _ _ _ _ _ _ _ _ _ _ _ _ _ _ _ _ _ _ _ _ _ _ _ _ _ _ _ _ _ _ _ _ _ _ _ _ _ _ _ _ _ _ _ _ _ _ _ _ _ _ _ _ _ _ _ hrow' hup

end Go.Proofs.YtanghehmfagmfaaGreatDoor

/-
  The contract of the reference's Sum.
-/
namespace Go.Proofs.YtanghehmfagmfaaGreatDoor
open Go.RowKit
set_option linter.unusedVariables false
set_option maxRecDepth 100000

theorem run_buildSlice {P : Program} {t e : TypeId} {len : Nat} {parts : Array (Nat × Value)} {cells : Array Value} {i : TypeInfo} {z : Value} (w : World) (ht : P.underlying t = some (.slice e)) (hi : P.info? e = some i) (hz : i.zero = some z) (hs : i.size = 1) (h0 : 0 < len) (h1 : len ≤ 16777216)
    (hf : Instr.fill (fun i => some (i, 1)) ((Array.range len).map (z.cells[· % z.cells.size]!)) parts.toList = some cells) :
    (Instr.buildSlice t len parts).run P w = .ok (.slice (some ⟨w.heap.size, 0, none⟩) len len) (w.alloc (.cells cells e)) := by
  have hn : ¬ 16777216 < len := by omega
  have hn0 : ¬ len = 0 := by omega
  simp [Instr.buildSlice, run_underlying ht, typeInfo, hi, sizeOf, zeroValue, hz, hs, newRow, hn, hn0, hf]
theorem wpList_buildSlice {P : Program} {ops : Array Oper} {rest : List Oper} {op : Oper} {a : Act} {w : World} {Q : Exit → Act → World → Prop} (hgd : op.guard = none) (t e : TypeId) (len : Nat) (parts : Array (Nat × Operand)) (ho : op.op = .buildSlice t len parts)
    (cells : Array Value) {i : TypeInfo} {z : Value} (ht : P.underlying t = some (.slice e)) (hi : P.info? e = some i) (hz : i.zero = some z) (hs : i.size = 1) (h0 : 0 < len) (h1 : len ≤ 16777216)
    (hf : Instr.fill (fun i => some (i, 1)) ((Array.range len).map (z.cells[· % z.cells.size]!)) (parts.map fun (i, x) => (i, a.eval x)).toList = some cells) (N : Nat) (hN : w.heap.size = N)
    (h : wpList P ops Q rest (a.put op.dst (.slice (some ⟨N, 0, none⟩) len len)) (w.alloc (.cells cells e))) : wpList P ops Q (op :: rest) a w := by
  subst hN
  refine wpList_value hgd (w' := w.alloc (.cells cells e)) ?_ h
  unfold execOp
  simp only [ho, Sem.run_bind, run_buildSlice w ht hi hz hs h0 h1 hf]
  rfl

end Go.Proofs.YtanghehmfagmfaaGreatDoor

/-
  The contract of the reference's Sum, whole.
-/
namespace Go.Proofs.YtanghehmfagmfaaGreatDoor
open Go.RowKit
set_option linter.unusedVariables false
set_option maxRecDepth 100000

theorem str_cat (a b : List UInt8) : str a ++ str b = str (a ++ b) := by
  unfold str
  apply ByteArray.ext
  apply Array.toList_inj.1
  simp
theorem zeros_snoc (k : Nat) : List.replicate k (0 : UInt8) ++ [0] = List.replicate (k + 1) 0 := by
  rw [List.replicate_succ']

set_option maxRecDepth 1000000 in
set_option maxHeartbeats 4000000 in
theorem ref_sum (s : ByteArray) (w : World) (hlen : s.size ≤ 288230376151711744) :
    Calls Tryz.prog 187 #[.string s] w fun e w' => e = .returned (.string (shaS s)) ∧ Below w.heap.size w w' := by
  obtain ⟨l, rfl⟩ : ∃ l, s = str l := ⟨_, (str_back s).symm⟩
  have HSH : Hid (shaS (str l) = str (shaL l)) := by unfold shaS str; rfl
  rw [str_size] at hlen
  have HSL : Hid (str l = str l) := rfl
  have hsl : (str l).size = l.length := str_size l
  obtain ⟨i0, hi, hz0, hz1, hz2⟩ := info_parts info32D
  have hcat0 : str l ++ ⟨#[128]⟩ = str (l ++ 128 :: List.replicate 0 0) := str_cat l [128]
  have hln0 : ¬ (9223372036854775807 < l.length + 1) := by omega
  go_enter Tryz.func187, Tryz.ntmps187
  go_wp2_with (first | (refine wpList_buildSlice rfl 192 73 64 _ rfl kCells.toArray Tryz.underlying192 hi hz0 hz1 (by omega) (by omega) (by kernel_rfl) w.heap.size rfl ?_) | (refine wpList_buildSlice rfl 192 73 8 _ rfl (cells32 hZero.list).toArray Tryz.underlying192 hi hz0 hz1 (by omega) (by omega) (by kernel_rfl) (w.heap.size + 1) (by simp) ?_))
  have hrT : RowIs ((w.alloc (.cells kCells.toArray 73)).alloc (.cells (cells32 hZero.list).toArray 73)) w.heap.size 73 kCells := (RowIs.new w _ _).alloc _
  have hrH : RowIs ((w.alloc (.cells kCells.toArray 73)).alloc (.cells (cells32 hZero.list).toArray 73)) (w.heap.size + 1) 73 (cells32 hZero.list) := by
    have := RowIs.new (w.alloc (.cells kCells.toArray 73)) 73 (cells32 hZero.list)
    simpa using this
  have hb2 : Below w.heap.size w ((w.alloc (.cells kCells.toArray 73)).alloc (.cells (cells32 hZero.list).toArray 73)) := ((Below.refl _ _).alloc (Nat.le_refl _) _).alloc (by simp) _
  generalize (w.alloc (.cells kCells.toArray 73)).alloc (.cells (cells32 hZero.list).toArray 73) = w2 at *
  have hz := padZ_lt l.length
  clear hcat0 hln0
  go_loop [5] (fun v => ∃ k : Nat, k ≤ padZ l.length ∧ v = .string (str (l ++ 128 :: List.replicate k 0))) (fun v => padZ l.length + l.length + 1 - strLen v)
  case atStart => exact ⟨0, by omega, rfl⟩
  case round =>
    obtain ⟨k, hk, rfl⟩ := hrel
    have hsz : (str (l ++ 128 :: List.replicate k 0)).size = l.length + 1 + k := by rw [str_size]; simp; omega
    by_cases hlt : k < padZ l.length
    · have hne : ((l.length + 1 + k) % 64 != 56) = true := by unfold padZ at hlt; rw [bne_iff_ne]; omega
      have hneI : ((((l.length + 1 + k : Nat) : Int)) % 64 != 56) = true := by unfold padZ at hlt; rw [bne_iff_ne]; omega
      have hneJ : (((l.length : Int) + 1 + (k : Int)) % 64 != 56) = true := by unfold padZ at hlt; rw [bne_iff_ne]; omega
      have hcat : str (l ++ 128 :: List.replicate k 0) ++ ⟨#[0]⟩ = str (l ++ 128 :: List.replicate (k + 1) 0) := by
        rw [show (⟨#[0]⟩ : ByteArray) = str [0] from rfl, str_cat, List.append_assoc, List.cons_append, zeros_snoc]
      have hln : ¬ (9223372036854775807 < l.length + 1 + k + 1) := by omega
      go_wp2
      go_round
      case rel => exact ⟨k + 1, by omega, rfl⟩
      case measure =>
        simp only [strLen]
        rw [hsz, str_size]
        simp
        omega
    · have hkz : k = padZ l.length := by omega
      have hne : ((l.length + 1 + k) % 64 != 56) = false := by unfold padZ at hkz; rw [bne_eq_false_iff_eq]; omega
      have hneI : ((((l.length + 1 + k : Nat) : Int)) % 64 != 56) = false := by unfold padZ at hkz; rw [bne_eq_false_iff_eq]; omega
      have hneJ : (((l.length : Int) + 1 + (k : Int)) % 64 != 56) = false := by unfold padZ at hkz; rw [bne_eq_false_iff_eq]; omega
      have HALL : Hid ((l ++ 128 :: List.replicate k 0) ++ putBig (8 * (l.length : Int)) 8 = l ++ padL l.length) := by
        rw [hkz, padL, List.append_assoc]; rfl
      have HKZ : Hid (k = padZ l.length) := hkz
      clear hkz hlt hk
      go_wp2_with fail
      refine (ref_putBig _ _ _ (by omega) (by omega)).mono ?_
      rintro e w3 ⟨rfl, hb3⟩
      have hrT3 := hrT.below hb3 hrT.lt
      have hrH3 := hrH.below hb3 hrH.lt
      have hbel3 : Below w.heap.size w w3 := hb2.trans (hb3.mono hb2.size)
      clear hrT hrH hb3 hb2
      rw [show (l.length : Int) * 8 = 8 * (l.length : Int) from by omega]
      obtain ⟨all, hall⟩ : ∃ all, all = l ++ padL l.length := ⟨_, rfl⟩
      have hcat : str (l ++ 128 :: List.replicate k 0) ++ putBigS (8 * (l.length : Int)) 8 = str all := by
        rw [show putBigS (8 * (l.length : Int)) 8 = str (putBig (8 * (l.length : Int)) 8) from rfl, str_cat, HALL.out, hall]
      have hpb : (putBigS (8 * (l.length : Int)) 8).size = 8 := by unfold putBigS; rw [str_size, putBig8_len]
      have hln : ¬ (9223372036854775807 < l.length + 1 + k + 8) := by have := HKZ.out; omega
      have HAL : Hid (all.length = l.length + 9 + padZ l.length) := by rw [hall, List.length_append, padL_len]; show _ = _; omega
      have hall60 : all.length ≤ 1152921504606846976 := by have := HAL.out; omega
      have HMOD : Hid (all.length % 64 = 0) := by have := HAL.out; unfold padZ at this; show _ % _ = _; omega
      have HRES : Hid (toldTo (absorb all (all.length / 64)).list 8 = shaL l) := by rw [hall]; exact sha_of l
      clear hall HALL
      go_wp2_with fail
      refine ref_blocks _ _ _ _ _ _ _ _ _ _ _ _ _ _ _ _ _ _ _ _ _ _ _ _ _ _ _ _ _ _ _ _ _ _ _ _ _ _ _ _ _ _ _ _ _ _ _ _ _ _ _ _ _ _ _ _ _ _ _ _ _ _ _ _ _ _ _ _ _ _ _ _ _ _ _ _ _ _ _ _ _ _ _ _ _ _ _ _ _ _ _ _ _ _ _ _ _ _ _ _ _ _ _ _ _ _ _ _ _ _ _ _ _ _ _ _ _ _ _ _ _ _ _ _ _ _ _ _ _ _ _ _ _ _ _ _ _ _ _ _ _ _ _ _ _ _ _ _ _ _ _ _ _ _ _ _ _ _ _ _ _ _ _ _ _ _ _ _ _ _ _ _ _ _ _ _ _ _ _ _ _ _ _ _ _ _ _ _ _ _ _ _ _ _ _ _ _ _ _ _ _ _ _ _ _ _ _ _ _ _ _ _ _ _ _ _ _ _ _ _ _ _ _ _ _ _ _ _ _ _ _ w.heap.size (w.heap.size + 1) all _ _ hall60 HMOD.out (hrT3.range (by rw [List.drop_zero]; exact List.take_length)) hrT3.lt (by omega) hrH3 ?_
      intro e6 e7 e8 e9 e10 e11 e12 e13 e14 e15 e16 e17 e18 e19 e39 e40 e41 e42 e43 e44 e45 e46 e47 e48 e49 e50 e51 e52 e53 e54 e55 e56 e57 e58 e59 e60 e61 e62 e63 e64 e65 e66 e67 e68 e69 e70 e71 e72 e73 e74 e75 e76 e77 e78 e79 e80 e81 e82 e83 e84 e85 e86 e87 e88 e89 e90 e91 e92 e93 e94 e95 e96 e97 e98 e99 e100 e101 e102 e103 e104 e105 e106 e107 e108 e109 e110 e111 e112 e113 e114 e115 e116 e117 e118 e119 e120 e121 e122 e123 e124 e125 e126 e127 e128 e129 e130 e131 e132 e133 e134 e135 e136 e137 e138 e139 e140 e141 e142 e143 e144 e145 e146 e147 e148 e149 e150 e151 e152 e153 e154 e155 e156 e157 e158 e159 e160 e161 e162 e163 e164 e165 e166 e167 e168 e169 e170 e171 e172 e173 e174 e175 e176 e177 e178 e179 e180 e181 e182 e183 e184 e185 e186 e187 e188 e189 e190 e191 e192 e193 e194 e195 e196 e197 e198 e199 e200 e201 e202 e203 e204 e205 e206 e207 e208 e209 e210 e211 e212 e213 e214 e215 e216 e217 e218 e219 e220 e221 w4 hr4 hu4
      have hbel4 : Below w.heap.size w w4 := hbel3.trans (hu4.below (by omega) (Nat.le_of_lt hrT3.lt))
      clear hrT3 hrH3 hbel3 hu4 hcat hne hneI hneJ hsz hln
      have hwl := list_w (absorb_ok all (all.length / 64))
      have hll := list_len (absorb all (all.length / 64))
      generalize (absorb all (all.length / 64)).list = hl at *
      go_wp2_with fail
      have hg4 := hr4.lt
      go_loopw [20, 21] (fun o i wr => ∃ k : Nat, k ≤ 8 ∧ i = .int .i64 k ∧ o = .string (str (toldTo hl k)) ∧ RowIs wr (w.heap.size + 1) 73 (cells32 hl) ∧ Below w.heap.size w wr) (fun _ i _ => 8 - (intOf i).toNat)
      case atStart => exact ⟨0, by omega, rfl, rfl, hr4, hbel4⟩
      case round =>
        clear hr4 hbel4 hg4
        obtain ⟨j, hj, rfl, rfl, hr5, hbel5⟩ := hrel
        by_cases hlt : j < 8
        · have hc := hr5.cellAt (cells32_at hl j (by omega))
          have hwj : W32 (hl.getD j 0) := getD_w hwl j
          have hw0 := hwj.1
          have hw1 := hwj.2
          have HT : Hid (toldTo hl (j + 1) = toldTo hl j ++ putBig (hl.getD j 0) 4) := toldTo_succ hl j (by omega)
          have htl : (str (toldTo hl j)).size = 4 * j := by rw [str_size, toldTo_len hl j (by omega)]
          generalize hl.getD j 0 = x at *
          have hpx : (putBigS x 4).size = 4 := by unfold putBigS; rw [str_size, putBig4_len]
          have hcat5 : str (toldTo hl j) ++ putBigS x 4 = str (toldTo hl (j + 1)) := by
            rw [show putBigS x 4 = str (putBig x 4) from rfl, str_cat, HT.out]
          have hln5 : ¬ (9223372036854775807 < 4 * j + 4) := by omega
          have j0 : (0 : Int) ≤ (j : Int) := by omega
          have j8 : (j : Int) < 8 := by omega
          go_wp2_with fail
          refine (ref_putBig _ _ _ (by omega) (by omega)).mono ?_
          rintro e w6 ⟨rfl, hb6⟩
          have hr6 := hr5.below hb6 hr5.lt
          have hbel6 : Below w.heap.size w w6 := hbel5.trans (hb6.mono hbel5.size)
          clear hr5 hbel5 hb6 hc
          go_wp2
          go_roundw
          case rel => exact ⟨j + 1, by omega, by go_num, rfl, hr6, hbel6⟩
          case measure => simp [intOf]; omega
        · have hj8 : j = 8 := by omega
          have HO : Hid (toldTo hl j = shaL l) := by rw [hj8]; exact HRES
          go_wp2
          go_ret
          exact ⟨ret_str (by rw [HO.out, HSH.out]), hbel5⟩

end Go.Proofs.YtanghehmfagmfaaGreatDoor
