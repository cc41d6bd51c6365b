/-
  The contract of a Digest's compress.
-/
import Derived.Test.YtlhlpcfjoccgcaaSha7
import Derived.Test.YtlhlpcfjoccgcaaSha4
import Derived.Deep.RegionWith
namespace Go.Proofs.Ytlhlpcfjoccgcaa
open Go.RowKit
set_option linter.unusedVariables false
set_option maxRecDepth 100000

theorem st_cell {w : World} {b : Nat} {r : List Value} {l : List Int} {o : Nat} (h : RowIs w b 91 r) (hr : (r.drop o).take (cells32 l).length = cells32 l) (j : Nat) (hj : j < l.length) : w.cell? ⟨b, o + j, none⟩ = some (.int .u32 (l.getD j 0)) :=
  h.range hr j _ (cells32_at l j hj)

set_option maxRecDepth 100000 in
set_option maxHeartbeats 1000000 in
theorem dig_compress (b : Nat) (s : S8) (hs : s.ok) (blk : List UInt8) (len : Nat) (w : World) (hb : blk.length = 64) (h : RowIs w b 91 (digRow 1 0 kTab s.list blk len)) :
    Calls Try.prog 62 #[.pointer (some ⟨b, 0, none⟩)] w fun e w' => e = .returned (.tuple #[]) ∧ RowIs w' b 91 (digRow 1 0 kTab (comp s blk).list blk len) ∧ Upon b w w' := by
  have hblt := h.lt
  have hlen := digRow_len (done := 1) (mu := 0) (len := len) kTab_len (list_len s) hb
  have HB : Hid (w.rangeAt b 75 (cells8 blk)) := h.range (digRow_blk kTab_len (list_len s))
  have hrT := digRow_tab (done := 1) (mu := 0) (st := s.list) (blk := blk) (len := len) kTab_len
  have hrS := digRow_st (done := 1) (mu := 0) (st := s.list) (blk := blk) (len := len) kTab_len
  have HP : Hid (putAt (digRow 1 0 kTab s.list blk len) 67 (cells32 (comp s blk).list) = digRow 1 0 kTab (comp s blk).list blk len) := digRow_putSt _ kTab_len (list_len s) (list_len _)
  obtain ⟨wc, hwc⟩ : ∃ wc, wc = cells32 (wTo blk 64) := ⟨_, rfl⟩
  have HW : Hid (cells32 (wTo blk 64) = wc) := hwc.symm
  have hwl : wc.length = 64 := by rw [hwc, cells32_len, wTo_len]
  have hw1 : wc.toArray.all (·.oneCell') = true := by rw [hwc]; exact all_oneCell_toArray (cells32_one _)
  clear hwc
  generalize digRow 1 0 kTab s.list blk len = r at *
  go_enter Try.func62, Try.ntmps62
  go_wp2_with fail
  refine (dig_schedule b 75 blk _ hb HB.out hblt).mono ?_
  rintro e w1 ⟨rfl, hb1⟩
  rw [HW.out]
  have hr1 := h.below hb1 hblt
  have hu1 : Upon b w w1 := Upon.of_below hb1
  have hnew : RowIs (w1.alloc (.cells (cells32 z64).toArray 76)) w1.heap.size 76 (cells32 z64) := RowIs.new _ _ _
  clear h hb1
  go_wp2_with (first | (refine wpList_alloc rfl rfl run_alloc64 ?_) | (refine wpList_store_mid rfl 76 _ _ rfl w1.heap.size 0 wc.toArray rfl rfl (hnew.there (by simp [hwl, cells32_len, z64_len])) (by rw [size64]; simp [hwl]) hw1 ?_))
  have hr2 : RowIs ((w1.alloc (.cells (cells32 z64).toArray 76)).setCells w1.heap.size 0 wc) b 91 r := by
    have := hr1.alloc (.cells (cells32 z64).toArray 76)
    unfold RowIs at this ⊢
    rw [heap_setCells _ _ _ _ _ (Nat.ne_of_lt hr1.lt)]
    exact this
  have hn2 : RowIs ((w1.alloc (.cells (cells32 z64).toArray 76)).setCells w1.heap.size 0 wc) w1.heap.size 76 wc := by
    have := hnew.sets wc 0 (by rw [cells32_len, z64_len]; omega)
    rwa [show putAt (cells32 z64) 0 wc = wc from by simp [putAt, cells32_len, z64_len, hwl]] at this
  have hu2 : Upon b w ((w1.alloc (.cells (cells32 z64).toArray 76)).setCells w1.heap.size 0 wc) :=
    hu1.trans (Upon.of_below (bel_setCells ((Below.refl _ _).alloc (Nat.le_refl _) _) (Nat.le_refl _) _ _))
  have hb2 : b < ((w1.alloc (.cells (cells32 z64).toArray 76)).setCells w1.heap.size 0 wc).heap.size := hr2.lt
  have hg2 : w1.heap.size < ((w1.alloc (.cells (cells32 z64).toArray 76)).setCells w1.heap.size 0 wc).heap.size := hn2.lt
  clear hnew hr1 hu1
  generalize (w1.alloc (.cells (cells32 z64).toArray 76)).setCells w1.heap.size 0 wc = w2 at *
  generalize w1.heap.size = g at *
  obtain ⟨xa, xb, xc, xd, xe, xf, xg, xh⟩ := s
  have c0 : w2.cell? ⟨b, 67, none⟩ = some (.int .u32 xa) := st_cell hr2 hrS 0 (by simp [S8.list])
  have c1 : w2.cell? ⟨b, 68, none⟩ = some (.int .u32 xb) := st_cell hr2 hrS 1 (by simp [S8.list])
  have c2 : w2.cell? ⟨b, 69, none⟩ = some (.int .u32 xc) := st_cell hr2 hrS 2 (by simp [S8.list])
  have c3 : w2.cell? ⟨b, 70, none⟩ = some (.int .u32 xd) := st_cell hr2 hrS 3 (by simp [S8.list])
  have c4 : w2.cell? ⟨b, 71, none⟩ = some (.int .u32 xe) := st_cell hr2 hrS 4 (by simp [S8.list])
  have c5 : w2.cell? ⟨b, 72, none⟩ = some (.int .u32 xf) := st_cell hr2 hrS 5 (by simp [S8.list])
  have c6 : w2.cell? ⟨b, 73, none⟩ = some (.int .u32 xg) := st_cell hr2 hrS 6 (by simp [S8.list])
  have c7 : w2.cell? ⟨b, 74, none⟩ = some (.int .u32 xh) := st_cell hr2 hrS 7 (by simp [S8.list])
  have HC : Hid (∀ w' : World, w'.heap = w2.heap → Calls Try.prog 71 #[.agg #[.int .u32 xa, .int .u32 xb, .int .u32 xc, .int .u32 xd, .int .u32 xe, .int .u32 xf, .int .u32 xg, .int .u32 xh], .pointer (some ⟨b, 3, none⟩), .pointer (some ⟨g, 0, none⟩)] w' fun e w'' => e = .returned (.agg #[.int .u32 (comp ⟨xa, xb, xc, xd, xe, xf, xg, xh⟩ blk).a, .int .u32 (comp ⟨xa, xb, xc, xd, xe, xf, xg, xh⟩ blk).b, .int .u32 (comp ⟨xa, xb, xc, xd, xe, xf, xg, xh⟩ blk).c, .int .u32 (comp ⟨xa, xb, xc, xd, xe, xf, xg, xh⟩ blk).d, .int .u32 (comp ⟨xa, xb, xc, xd, xe, xf, xg, xh⟩ blk).e, .int .u32 (comp ⟨xa, xb, xc, xd, xe, xf, xg, xh⟩ blk).f, .int .u32 (comp ⟨xa, xb, xc, xd, xe, xf, xg, xh⟩ blk).g, .int .u32 (comp ⟨xa, xb, xc, xd, xe, xf, xg, xh⟩ blk).h]) ∧ RowIs w'' b 91 r ∧ Below w2.heap.size w' w'') := by
    intro w' hw'
    have hr' : RowIs w' b 91 r := by unfold RowIs at *; rw [hw']; exact hr2
    have hn' : RowIs w' g 76 (cells32 (wTo blk 64)) := by rw [HW.out]; unfold RowIs at *; rw [hw']; exact hn2
    refine (dig_compressed ⟨xa, xb, xc, xd, xe, xf, xg, xh⟩ hs b 3 g 0 kTab (wTo blk 64) w' rfl (wTo_len _ _) (hr'.range hrT) (hn'.range (by rw [List.drop_zero, List.take_length])) hr'.lt hn'.lt).mono ?_
    rintro e w'' ⟨rfl, hbel⟩
    exact ⟨rfl, hr'.below hbel hr'.lt, by rw [← hw']; exact hbel⟩
  clear hr2 hn2 hs HB
  obtain ⟨cm, hcm⟩ : ∃ cm, cm = comp ⟨xa, xb, xc, xd, xe, xf, xg, xh⟩ blk := ⟨_, rfl⟩
  rw [← hcm] at HC HP
  have HM : Hid (comp ⟨xa, xb, xc, xd, xe, xf, xg, xh⟩ blk = cm) := hcm.symm
  clear hcm
  go_region_with (first | (go_at_call 71; refine (HC.out w2.drew rfl).mono ?_; rintro e w3 ⟨rfl, hr3, hb3⟩; have d0 : (w3.cell? ⟨b, 67, none⟩) = some (.int .u32 xa) := st_cell hr3 hrS 0 (by simp [S8.list]); have d1 : (w3.cell? ⟨b, 68, none⟩) = some (.int .u32 xb) := st_cell hr3 hrS 1 (by simp [S8.list]); have d2 : (w3.cell? ⟨b, 69, none⟩) = some (.int .u32 xc) := st_cell hr3 hrS 2 (by simp [S8.list]); have d3 : (w3.cell? ⟨b, 70, none⟩) = some (.int .u32 xd) := st_cell hr3 hrS 3 (by simp [S8.list]); have d4 : (w3.cell? ⟨b, 71, none⟩) = some (.int .u32 xe) := st_cell hr3 hrS 4 (by simp [S8.list]); have d5 : (w3.cell? ⟨b, 72, none⟩) = some (.int .u32 xf) := st_cell hr3 hrS 5 (by simp [S8.list]); have d6 : (w3.cell? ⟨b, 73, none⟩) = some (.int .u32 xg) := st_cell hr3 hrS 6 (by simp [S8.list]); have d7 : (w3.cell? ⟨b, 74, none⟩) = some (.int .u32 xh) := st_cell hr3 hrS 7 (by simp [S8.list]); have z := fun j => hr3.frozen j))
  go_wp2
  go_end0
  have hu3 : Upon b w w3 := hu2.drew.trans (Upon.of_below hb3)
  refine ⟨rfl, ?_, hu3.setCells 67 (cells32 cm.list)⟩
  rw [HM.out, ← HP.out]
  exact hr3.sets (cells32 cm.list) 67 (by rw [hlen]; simp [cells32_len, list_len])

end Go.Proofs.Ytlhlpcfjoccgcaa
