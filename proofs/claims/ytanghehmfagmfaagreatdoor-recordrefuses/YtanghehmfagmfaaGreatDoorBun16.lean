/-
  Parts of this proof, one behind the other: Sha7.
-/
import Derived.Test.YtanghehmfagmfaaGreatDoorBun13
import Derived.Test.YtanghehmfagmfaaGreatDoorBun15

/-
  A Digest in memory: its 140 cells, what it holds, and begin's contract.
-/
namespace Go.Proofs.YtanghehmfagmfaaGreatDoor
open Go.RowKit
set_option linter.unusedVariables false
set_option maxRecDepth 100000

/-- The cells of a Digest. -/
def digRow (done mu : Int) (tab st : List Int) (blk : List UInt8) (len : Nat) : List Value :=
  [.int .u32 done, .int .i32 mu, .int .u32 0] ++ (cells32 tab ++ (cells32 st ++ (cells8 blk ++ [.int .i64 (len : Int)])))

theorem putAt_head (A B C : List Value) : putAt (A ++ B) A.length C = A ++ putAt B 0 C := by
  simp [putAt]
theorem putAt_past (A B C : List Value) (o : Nat) : putAt (A ++ B) (A.length + o) C = A ++ putAt B o C := by
  simp [putAt, List.take_append, List.drop_append]
  rw [List.take_of_length_le (by omega), List.drop_of_length_le (by omega), show A.length + o + C.length - A.length = o + C.length from by omega]
  simp
theorem putAt_zero (A B C : List Value) (h : C.length = A.length) : putAt (A ++ B) 0 C = C ++ B := by
  simp [putAt, h]

theorem digRow_len {done mu : Int} {tab st : List Int} {blk : List UInt8} {len : Nat} (ht : tab.length = 64) (hs : st.length = 8) (hb : blk.length = 64) : (digRow done mu tab st blk len).length = 140 := by
  simp [digRow, cells32_len, cells8_len, ht, hs, hb]
theorem digRow_done (done mu : Int) (tab st : List Int) (blk : List UInt8) (len : Nat) : (digRow done mu tab st blk len)[0]? = some (.int .u32 done) := rfl
theorem digRow_mu (done mu : Int) (tab st : List Int) (blk : List UInt8) (len : Nat) : (digRow done mu tab st blk len)[1]? = some (.int .i32 mu) := rfl
theorem digRow_length {done mu : Int} {tab st : List Int} {blk : List UInt8} {len : Nat} (ht : tab.length = 64) (hs : st.length = 8) (hb : blk.length = 64) : (digRow done mu tab st blk len)[139]? = some (.int .i64 (len : Int)) := by
  unfold digRow
  rw [List.getElem?_append_right (by simp), List.getElem?_append_right (by simp [cells32_len, ht]), List.getElem?_append_right (by simp [cells32_len, ht, hs]), List.getElem?_append_right (by simp [cells32_len, cells8_len, ht, hs, hb])]
  simp [cells32_len, cells8_len, ht, hs, hb]
theorem digRow_set0 (done mu x : Int) (tab st : List Int) (blk : List UInt8) (len : Nat) : (digRow done mu tab st blk len).set 0 (.int .u32 x) = digRow x mu tab st blk len := rfl
theorem digRow_set1 (done mu x : Int) (tab st : List Int) (blk : List UInt8) (len : Nat) : (digRow done mu tab st blk len).set 1 (.int .i32 x) = digRow done x tab st blk len := rfl
theorem digRow_setLen {done mu : Int} {tab st : List Int} {blk : List UInt8} {len : Nat} (n : Nat) (ht : tab.length = 64) (hs : st.length = 8) (hb : blk.length = 64) : (digRow done mu tab st blk len).set 139 (.int .i64 (n : Int)) = digRow done mu tab st blk n := by
  unfold digRow
  rw [List.set_append_right _ _ (by simp), List.set_append_right _ _ (by simp [cells32_len, ht]), List.set_append_right _ _ (by simp [cells32_len, ht, hs]), List.set_append_right _ _ (by simp [cells32_len, cells8_len, ht, hs, hb])]
  simp [cells32_len, cells8_len, ht, hs, hb]
theorem digRow_tab {done mu : Int} {tab st : List Int} {blk : List UInt8} {len : Nat} (ht : tab.length = 64) : ((digRow done mu tab st blk len).drop 3).take (cells32 tab).length = cells32 tab := by
  unfold digRow
  rw [show 3 = ([Value.int .u32 done, .int .i32 mu, .int .u32 0] : List Value).length from rfl, List.drop_left, List.take_left]
theorem digRow_st {done mu : Int} {tab st : List Int} {blk : List UInt8} {len : Nat} (ht : tab.length = 64) : ((digRow done mu tab st blk len).drop 67).take (cells32 st).length = cells32 st := by
  unfold digRow
  rw [← List.append_assoc, show 67 = (([Value.int .u32 done, .int .i32 mu, .int .u32 0] : List Value) ++ cells32 tab).length from by simp [cells32_len, ht], List.drop_left, List.take_left]
theorem digRow_blk {done mu : Int} {tab st : List Int} {blk : List UInt8} {len : Nat} (ht : tab.length = 64) (hs : st.length = 8) : ((digRow done mu tab st blk len).drop 75).take (cells8 blk).length = cells8 blk := by
  unfold digRow
  rw [← List.append_assoc, ← List.append_assoc, show 75 = ((([Value.int .u32 done, .int .i32 mu, .int .u32 0] : List Value) ++ cells32 tab) ++ cells32 st).length from by simp [cells32_len, ht, hs], List.drop_left, List.take_left]
theorem digRow_putTab {done mu : Int} {tab st : List Int} {blk : List UInt8} {len : Nat} (t' : List Int) (ht : tab.length = 64) (ht' : t'.length = 64) : putAt (digRow done mu tab st blk len) 3 (cells32 t') = digRow done mu t' st blk len := by
  unfold digRow
  rw [show 3 = ([Value.int .u32 done, .int .i32 mu, .int .u32 0] : List Value).length from rfl, putAt_head, putAt_zero _ _ _ (by rw [cells32_len, cells32_len, ht, ht'])]
theorem digRow_putSt {done mu : Int} {tab st : List Int} {blk : List UInt8} {len : Nat} (s' : List Int) (ht : tab.length = 64) (hs : st.length = 8) (hs' : s'.length = 8) : putAt (digRow done mu tab st blk len) 67 (cells32 s') = digRow done mu tab s' blk len := by
  unfold digRow
  rw [← List.append_assoc, show 67 = (([Value.int .u32 done, .int .i32 mu, .int .u32 0] : List Value) ++ cells32 tab).length from by simp [cells32_len, ht], putAt_head, putAt_zero _ _ _ (by rw [cells32_len, cells32_len, hs, hs']), List.append_assoc]
/-- Bytes laid over others from i on. -/
def over (blk : List UInt8) (i : Nat) (p : List UInt8) : List UInt8 := blk.take i ++ p ++ blk.drop (i + p.length)
theorem over_len {blk p : List UInt8} {i : Nat} (h : i + p.length ≤ blk.length) : (over blk i p).length = blk.length := by simp [over]; omega
theorem over_cells (blk p : List UInt8) (i : Nat) : putAt (cells8 blk) i (cells8 p) = cells8 (over blk i p) := by
  simp [putAt, over, cells8]
theorem putAt_keep (A B C : List Value) (i : Nat) (h : i + C.length ≤ A.length) : putAt (A ++ B) i C = putAt A i C ++ B := by
  simp only [putAt, List.append_assoc]
  rw [List.take_append_of_le_length (by omega), List.drop_append_of_le_length h]
theorem digRow_putBlk {done mu : Int} {tab st : List Int} {blk : List UInt8} {len : Nat} (i : Nat) (p : List UInt8) (ht : tab.length = 64) (hs : st.length = 8) (hb : i + p.length ≤ blk.length) : putAt (digRow done mu tab st blk len) (75 + i) (cells8 p) = digRow done mu tab st (over blk i p) len := by
  unfold digRow
  rw [← List.append_assoc, ← List.append_assoc, show 75 + i = ((([Value.int .u32 done, .int .i32 mu, .int .u32 0] : List Value) ++ cells32 tab) ++ cells32 st).length + i from by simp [cells32_len, ht, hs], putAt_past, putAt_keep _ _ _ _ (by rw [cells8_len, cells8_len]; exact hb), over_cells, List.append_assoc, List.append_assoc]

/-- A Digest that was asked already, to which the bytes bs were added. -/
def Ready (w : World) (b : Nat) (bs : List UInt8) : Prop :=
  ∃ blk : List UInt8, blk.length = 64 ∧ blk.take (bs.length % 64) = bs.drop (64 * (bs.length / 64)) ∧ RowIs w b 277 (digRow 1 0 kTab (absorb bs (bs.length / 64)).list blk bs.length)
/-- A zero Digest. -/
def Fresh (w : World) (b : Nat) : Prop :=
  ∃ (tab st : List Int) (blk : List UInt8), tab.length = 64 ∧ st.length = 8 ∧ blk.length = 64 ∧ RowIs w b 277 (digRow 0 0 tab st blk 0)
/-- A Digest to which the bytes bs were added. -/
def DigAt (w : World) (b : Nat) (bs : List UInt8) : Prop := Ready w b bs ∨ (bs = [] ∧ Fresh w b)

theorem Ready.lt {w : World} {b : Nat} {bs : List UInt8} (h : Ready w b bs) : b < w.heap.size := by obtain ⟨_, _, _, h⟩ := h; exact h.lt
theorem DigAt.lt {w : World} {b : Nat} {bs : List UInt8} (h : DigAt w b bs) : b < w.heap.size := by
  rcases h with h | ⟨_, _, _, _, _, _, _, h⟩
  · exact h.lt
  · exact h.lt
theorem Ready.kept {w w' : World} {b : Nat} {bs : List UInt8} (h : Ready w b bs) (he : w'.heap[b]? = w.heap[b]?) : Ready w' b bs := by
  obtain ⟨blk, h1, h2, h3⟩ := h
  exact ⟨blk, h1, h2, by unfold RowIs at *; rw [he]; exact h3⟩
theorem DigAt.kept {w w' : World} {b : Nat} {bs : List UInt8} (h : DigAt w b bs) (he : w'.heap[b]? = w.heap[b]?) : DigAt w' b bs := by
  rcases h with h | ⟨h0, tab, st, blk, h1, h2, h3, h4⟩
  · exact Or.inl (h.kept he)
  · exact Or.inr ⟨h0, tab, st, blk, h1, h2, h3, by unfold RowIs at *; rw [he]; exact h4⟩
theorem DigAt.below {w w' : World} {b : Nat} {bs : List UInt8} (h : DigAt w b bs) (hb : Below w.heap.size w w') : DigAt w' b bs := h.kept (hb.block b h.lt)
theorem DigAt.upon {w w' : World} {b c : Nat} {bs : List UInt8} (h : DigAt w b bs) (hu : Upon c w w') (hc : b ≠ c) : DigAt w' b bs := h.kept (hu.block b h.lt hc)
theorem list_len (s : S8) : s.list.length = 8 := rfl

set_option maxRecDepth 100000 in
set_option maxHeartbeats 1000000 in
theorem dig_begin (b : Nat) (done mu : Int) (tab st : List Int) (blk : List UInt8) (len : Nat) (w : World) (ht : tab.length = 64) (hs : st.length = 8) (hb : blk.length = 64)
    (h : RowIs w b 277 (digRow done mu tab st blk len)) :
    Calls Tryz.prog 243 #[.pointer (some ⟨b, 0, none⟩)] w fun e w' => e = .returned (.tuple #[]) ∧ RowIs w' b 277 (digRow done mu kTab hZero.list blk len) ∧ Upon b w w' := by
  have hblt := h.lt
  obtain ⟨kc, hkc⟩ : ∃ kc, kc = cells32 kTab := ⟨_, rfl⟩
  obtain ⟨zc, hzc⟩ : ∃ zc, zc = cells32 hZero.list := ⟨_, rfl⟩
  have hk1 : kc.toArray.all (·.oneCell') = true := by rw [hkc]; exact all_oneCell_toArray (cells32_one kTab)
  have hz1 : zc.toArray.all (·.oneCell') = true := by rw [hzc]; exact all_oneCell_toArray (cells32_one hZero.list)
  have hkl : kc.toArray.size = 64 := by rw [hkc]; rfl
  have hzl : zc.toArray.size = 8 := by rw [hzc]; rfl
  have HK : Hid (cells32 kTab = kc) := hkc.symm
  have HZ : Hid (cells32 hZero.list = zc) := hzc.symm
  clear hkc hzc
  have hlen := digRow_len (done := done) (mu := mu) (len := len) ht hs hb
  have HP1 : Hid (putAt (digRow done mu tab st blk len) 3 kc = digRow done mu kTab st blk len) := by rw [← HK.out]; exact digRow_putTab kTab ht rfl
  have HP2 : Hid (putAt (digRow done mu kTab st blk len) 67 zc = digRow done mu kTab hZero.list blk len) := by rw [← HZ.out]; exact digRow_putSt hZero.list rfl hs rfl
  have hlen2 := digRow_len (done := done) (mu := mu) (len := len) (tab := kTab) rfl hs hb
  generalize digRow done mu tab st blk len = r0 at *
  generalize digRow done mu kTab st blk len = r1 at *
  go_enter Tryz.func243, Tryz.ntmps243
  go_wp2_with fail
  refine (dig_roundWords _).mono ?_
  rintro e w1 ⟨rfl, hb1⟩
  rw [HK.out]
  have hr1 := h.below hb1 hblt
  have hu1 : Upon b w w1 := Upon.of_below hb1
  clear h hb1
  go_wp2_with (refine wpList_store_mid rfl 247 _ _ rfl b 3 kc.toArray rfl rfl (hr1.there (by rw [hkl, hlen]; omega)) (by rw [size64, hkl]) hk1 ?_)
  have hr2 : RowIs (w1.setCells b 3 kc) b 277 r1 := by rw [← HP1.out]; exact hr1.sets kc 3 (by rw [hlen]; simp at hkl; omega)
  have hu2 : Upon b w (w1.setCells b 3 kc) := hu1.setCells 3 kc
  clear hr1 hu1
  generalize w1.setCells b 3 kc = w2 at *
  refine (dig_firstState _).mono ?_
  rintro e w3 ⟨rfl, hb3⟩
  rw [HZ.out]
  have hr3 := hr2.below hb3 hr2.lt
  have hu3 : Upon b w w3 := hu2.trans (Upon.of_below hb3)
  clear hr2 hb3 hu2
  go_wp2_with (refine wpList_store_mid rfl 274 _ _ rfl b 67 zc.toArray rfl rfl (hr3.there (by rw [hzl, hlen2]; omega)) (by rw [size8, hzl]) hz1 ?_)
  go_end0
  refine ⟨rfl, ?_, hu3.setCells 67 zc⟩
  rw [← HP2.out]
  exact hr3.sets zc 67 (by rw [hlen2]; simp at hzl; omega)

theorem callFunc_begin (args : Array Value) (w : World) : (callFunc 243 args).run Tryz.prog w = .ok (.enter 243 args) w := by
  simp [go_sem]

/-- 'd.once.Do(d.begin)': whatever it was, the Digest is ready behind it. -/
theorem dig_ensure (b : Nat) (bs : List UInt8) (w : World) (h : DigAt w b bs) :
    Calls Tryz.prog 92 #[.pointer (some ⟨b, 0, none⟩), .func (.func 243) #[.pointer (some ⟨b, 0, none⟩)] #[]] w fun e w' => e = .returned (.tuple #[]) ∧ Ready w' b bs ∧ Upon b w w' := by
  rcases h with h | ⟨rfl, tab, st, blk, ht, hs, hb, h⟩
  · obtain ⟨blk, h1, h2, h3⟩ := h
    refine (once_done ⟨b, 0, none⟩ 1 (by decide) _ w (h3.cellAt (digRow_done _ _ _ _ _ _))).mono ?_
    rintro e w' ⟨rfl, rfl⟩
    exact ⟨rfl, ⟨blk, h1, h2, h3⟩, Upon.refl _ _⟩
  · have h1 := h.set 1 (.int .i32 1)
    rw [digRow_set1] at h1
    have hc := (dig_begin b 0 1 tab st blk 0 (w.setCell ⟨b, 1, none⟩ (.int .i32 1)) ht hs hb h1)
    refine (once_first b 0 243 #[.pointer (some ⟨b, 0, none⟩)] #[] #[.pointer (some ⟨b, 0, none⟩)] (fun w' => RowIs w' b 277 (digRow 0 1 kTab hZero.list blk 0) ∧ Upon b w w') w (fun w' => callFunc_begin _ w') (h.cellAt (digRow_done _ _ _ _ _ _)) (h.cellAt (digRow_mu _ _ _ _ _ _)) (h.frozen _) (h.frozen _) ?_).mono ?_
    · refine hc.mono ?_
      rintro e w' ⟨rfl, hr, hu⟩
      exact ⟨rfl, hr.cellAt (digRow_done _ _ _ _ _ _), hr.cellAt (digRow_mu _ _ _ _ _ _), hr.frozen _, hr.frozen _, hr, ((Upon.refl b w).setCell 1 _).trans hu⟩
    · rintro e w' ⟨rfl, w1, ⟨hr, hu⟩, rfl⟩
      refine ⟨rfl, ⟨blk, hb, rfl, ?_⟩, (hu.drew.setCell 0 _).setCell 1 _⟩
      have := (hr.drew.set 0 (.int .u32 1)).set 1 (.int .i32 0)
      rw [digRow_set0, digRow_set1] at this
      exact this

end Go.Proofs.YtanghehmfagmfaaGreatDoor
