/-
  Parts of this proof, one behind the other: RcK4, RcK6, RecK.
-/
import Derived.Test.YtanghehmfagmfaaGreatDoorBun47
import Derived.Test.YtanghehmfagmfaaGreatDoorBun50
import Derived.Test.YtanghehmfagmfaaGreatDoorBun49
import Derived.Test.YtanghehmfagmfaaGreatDoorBun39

/-
  Package record: Seal.
-/
namespace Go.Proofs.YtanghehmfagmfaaGreatDoor
open Go.RowKit
set_option linter.unusedVariables false
set_option maxRecDepth 100000
set_option linter.unusedSimpArgs false

/-- The cells of an Out: its keys, how many were sealed. -/
structure OutCells (key : ByteArray) (n : Nat) (l : List Value) : Prop where
  keys : KeySeg key l
  next : l[201]? = some (.int .i64 (n : Int))
theorem outCells_is (key : ByteArray) : OutCells key 0 (outCells key) := ⟨keyCells_is key _, by unfold outCells; rw [List.getElem?_append_right (by rw [keyCells_len]; omega), keyCells_len]; rfl⟩
theorem OutCells.more {key : ByteArray} {n m : Nat} {l : List Value} (h : OutCells key n l) : OutCells key m (l.set 201 (.int .i64 (m : Int))) :=
  ⟨h.keys.keep (fun i hi => List.getElem?_set_ne (by omega)), List.getElem?_set_self (List.getElem?_eq_some_iff.1 h.next).1⟩
theorem OutCells.of {key : ByteArray} {n : Nat} {l l' : List Value} (h : OutCells key n l) (hk : KeySeg key l') (ho : RowOut 1 201 l l') : OutCells key n l' := ⟨hk, by rw [ho.out 201 (by omega)]; exact h.next⟩
theorem touch_below13 {S : Nat → Prop} {w w1 w2 : World} (h : Touch S w w1) (b : Below w1.heap.size w1 w2) : Touch S w w2 := h.trans (Touch.of_below b)

set_option maxHeartbeats 1000000 in
theorem rec_sealLarge (w : World) (p : Nat) (key : ByteArray) (n : Nat) (t : ByteArray) (l : List Value) (hr : RowIs w p 91 l) (hl : OutCells key n l) (h32 : key.size = 32) (h1 : t.size ≤ 1000000) (ht : 2046 < t.size) :
    Calls Tryz.prog 17 #[.pointer (some ⟨p, 0, none⟩), .string t] w fun e w' => ∃ s, e = .returned (.tuple #[.string s, .int .i64 13]) ∧ Below w.heap.size w w' := by
  have PM := rec_made w p _ l key hr hl.keys h32
  have PP : Hid _ := fun w1 => padK_pad t w1 h1
  rw [show padOk t = false from decide_eq_false (by omega)] at PP
  generalize padS t = PT at *
  clear hr hl
  go_enter Tryz.func17, Tryz.ntmps17
  go_wp2_with fail
  with_reducible refine PM.mono ?_
  rintro e w' ⟨rfl, rfl⟩
  go_wp2_with fail
  with_reducible refine (PP.out _).mono ?_
  rintro e w1 ⟨rfl, b1⟩
  go_wp2
  go_ret2
  exact ⟨_, rfl, b1⟩

set_option maxHeartbeats 1000000 in
theorem rec_sealEnd (w : World) (p : Nat) (key : ByteArray) (n : Nat) (t : ByteArray) (l : List Value) (hr : RowIs w p 91 l) (hl : OutCells key n l) (h32 : key.size = 32) (ht : t.size ≤ 2046) (hn : 400 ≤ n) (hn2 : n ≤ 1000000) :
    Calls Tryz.prog 17 #[.pointer (some ⟨p, 0, none⟩), .string t] w fun e w' => ∃ s, e = .returned (.tuple #[.string s, .int .i64 5]) ∧ (∃ l', RowIs w' p 91 l' ∧ OutCells key (n + 1) l') ∧ Touch (fun k => k = p) w w' := by
  have PM := rec_made w p _ l key hr hl.keys h32
  have PP : Hid _ := fun w1 => padK_pad t w1 (by omega)
  rw [show padOk t = true from decide_eq_true ht] at PP
  have PC : Hid _ := fun w1 (hr : RowIs w1 p 91 l) => rec_claim w1 p _ l n hr hl.next hn2
  rw [show decide (n < 400) = false from decide_eq_false (by omega)] at PC
  have HL : Hid _ := hl.more (m := n + 1)
  have HR : Hid (RowIs w p 91 l) := hr
  generalize padS t = PT at *
  clear hr hl
  go_enter Tryz.func17, Tryz.ntmps17
  go_wp2_with fail
  with_reducible refine PM.mono ?_
  rintro e w' ⟨rfl, rfl⟩
  go_wp2_with fail
  with_reducible refine (PP.out _).mono ?_
  rintro e w1 ⟨rfl, b1⟩
  have r1 := HR.out.below b1 HR.out.lt
  have T1 : Touch (fun k => k = p) w w1 := Touch.of_below b1
  go_wp2_with fail
  with_reducible refine (PC.out _ r1).mono ?_
  rintro e w2 ⟨rfl, rfl⟩
  go_wp2
  go_ret2
  exact ⟨_, rfl, ⟨_, r1.set 201 _, HL.out⟩, T1.set (p := ⟨p, 201, none⟩) (Or.inl rfl) _⟩

set_option maxHeartbeats 2000000 in
theorem rec_seal (w : World) (p : Nat) (key : ByteArray) (n : Nat) (t : ByteArray) (l : List Value) (hr : RowIs w p 91 l) (hl : OutCells key n l) (h32 : key.size = 32) (ht : t.size ≤ 2046) (hn : n < 400) :
    Calls Tryz.prog 17 #[.pointer (some ⟨p, 0, none⟩), .string t] w fun e w' => e = .returned (.tuple #[.string (recS key n t), .int .i64 0]) ∧ (∃ l', RowIs w' p 91 l' ∧ OutCells key (n + 1) l') ∧ Touch (fun k => k = p) w w' := by
  have PM := rec_made w p _ l key hr hl.keys h32
  have PP : Hid _ := fun w1 => padK_pad t w1 (by omega)
  rw [show padOk t = true from decide_eq_true ht] at PP
  have PC : Hid _ := fun w1 (hr : RowIs w1 p 91 l) => rec_claim w1 p _ l n hr hl.next (by omega)
  rw [show decide (n < 400) = true from decide_eq_true hn] at PC
  have HL : Hid _ := hl.more (m := n + 1)
  have HR : Hid (RowIs w p 91 l) := hr
  have PB : Hid _ := fun w1 => octet_putBig (n : Int) 8 w1 (by omega) (by omega)
  have PO : Hid _ := fun w1 (hr : RowIs w1 p 91 (l.set 201 (.int .i64 ((n + 1 : Nat) : Int)))) => rec_of w1 p _ _ key n hr HL.out.keys h32 hn
  have PN : Hid _ := fun w1 => ratK_nonce (n : Int) w1 (by omega) (by omega)
  have hks : (turnR key (n / 8)).size = 32 := by
    cases n / 8 with
    | zero => exact h32
    | succ m => exact turnR_size key m
  have hns := nonceR_size (seq := (n : Int)) (by omega)
  have hps := padS_size t ht
  have hpb := sizeN_bd (t.size : Int) (by omega) (by omega)
  have hzs := putBigS_size (n : Int) 8 (by decide)
  have PX : Hid _ := fun w1 => box_seal_yes (turnR key (n / 8)) (nonceR (n : Int)) (padS t) (putBigS (n : Int) 8) w1 hks hns (by omega) (by rw [hzs]; decide)
  have hss := sealS_size (turnR key (n / 8)) (nonceR (n : Int)) (padS t) (putBigS (n : Int) 8)
  have hrec : Hid (recS key n t = putBigS (n : Int) 8 ++ sealS (turnR key (n / 8)) (nonceR (n : Int)) (padS t) (putBigS (n : Int) 8)) := rfl
  rw [hrec.out]
  have hss2 : (sealS (turnR key (n / 8)) (nonceR (n : Int)) (padS t) (putBigS (n : Int) 8)).size ≤ 10000 := by omega
  have hzs2 : (putBigS (n : Int) 8).size ≤ 10000 := by rw [hzs]; decide
  clear hrec hss hzs hpb hps hks hns
  generalize sealS (turnR key (n / 8)) (nonceR (n : Int)) (padS t) (putBigS (n : Int) 8) = SS at *
  generalize putBigS (n : Int) 8 = HH at *
  generalize nonceR (n : Int) = NN at *
  generalize turnR key (n / 8) = KE at *
  generalize padS t = PT at *
  have hln : ¬ (9223372036854775807 < HH.size + SS.size) := by omega
  have hw : IntKind.u64.wrap (n : Int) = (n : Int) := by rw [IntKind.wrap_u64]; omega
  clear hr hl
  go_enter Tryz.func17, Tryz.ntmps17
  go_wp2_with fail
  with_reducible refine PM.mono ?_
  rintro e w' ⟨rfl, rfl⟩
  go_wp2_with fail
  with_reducible refine (PP.out _).mono ?_
  rintro e w1 ⟨rfl, b1⟩
  have r1 := HR.out.below b1 HR.out.lt
  have T1 : Touch (fun k => k = p) w w1 := Touch.of_below b1
  go_wp2_with fail
  with_reducible refine (PC.out _ r1).mono ?_
  rintro e w2 ⟨rfl, rfl⟩
  have r2 := r1.set 201 (.int .i64 ((n + 1 : Nat) : Int))
  have T2 := T1.set (p := ⟨p, 201, none⟩) (Or.inl rfl) (.int .i64 ((n + 1 : Nat) : Int))
  clear r1 T1 b1 PM PP PC
  generalize w1.setCell ⟨p, 201, none⟩ (.int .i64 ((n + 1 : Nat) : Int)) = w2 at *
  go_wp2_with fail
  with_reducible refine (PB.out _).mono ?_
  rintro e w3 ⟨rfl, b3⟩
  have r3 := r2.below b3 r2.lt
  have T3 := touch_below13 T2 b3
  clear r2 T2 b3 PB
  go_wp2_with fail
  with_reducible refine (PO.out _ r3).mono ?_
  rintro e w4 ⟨rfl, ⟨l4, r4, k4, o4⟩, T4⟩
  have T4' := T3.trans T4
  have HL4 := HL.out.of k4 o4
  clear r3 T3 T4 PO k4 o4 HL HR
  go_wp2_with fail
  with_reducible refine (PN.out _).mono ?_
  rintro e w5 ⟨rfl, b5⟩
  have r5 := r4.below b5 r4.lt
  have T5 := touch_below13 T4' b5
  clear r4 T4' b5 PN
  go_wp2_with fail
  with_reducible refine (PX.out _).mono ?_
  rintro e w6 ⟨rfl, b6⟩
  have r6 := r5.below b6 r5.lt
  have T6 := touch_below13 T5 b6
  clear r5 T5 b6 PX
  go_wp2
  go_ret2
  exact ⟨rfl, ⟨l4, r6, HL4⟩, T6⟩

end Go.Proofs.YtanghehmfagmfaaGreatDoor

/-
  Package record: Open, Next and Waits of an In.
-/
namespace Go.Proofs.YtanghehmfagmfaaGreatDoor
open Go.RowKit
set_option linter.unusedVariables false
set_option maxRecDepth 100000
set_option linter.unusedSimpArgs false

theorem InCells.of {s : InS} {l l' : List Value} (h : InCells s l) (hk : KeySeg s.key l') (ho : RowOut 1 201 l l') : InCells s l' := by
  obtain ⟨_, ⟨B, hB, hw⟩, ht⟩ := h
  exact ⟨hk, ⟨B, hB, hw.keep (fun i h1 h2 => ho.out i (by omega))⟩, ht.keep (fun i h1 => ho.out i (by omega))⟩
/-- May tells whether a number is not an old one. -/
theorem may_old (s : InS) (b : ByteArray) : decide ((s.next : Int) ≤ (seqN b : Int) ∧ (seqN b : Int) < (s.next : Int) + 64 ∧ (seqN b : Int) ∉ numsW s.W) = !oldR s b := by
  have hm : ((seqN b : Nat) : Int) ∈ numsW s.W ↔ hasW s.W (seqN b) = true := mem_numsW.trans (hasW_iff _ _).symm
  unfold oldR
  by_cases h1 : seqN b < s.next ∨ s.next + 64 ≤ seqN b
  · rw [decide_eq_true h1, decide_eq_false (by omega)]; rfl
  · rw [decide_eq_false h1, Bool.false_or]
    cases hh : hasW s.W (seqN b) with
    | true => exact decide_eq_false (fun h => h.2.2 (hm.2 hh))
    | false => exact decide_eq_true ⟨by omega, by omega, fun h => by rw [hm.1 h] at hh; cases hh⟩
theorem openS_le (key nonce b more : ByteArray) : (openS key nonce b more).size ≤ b.size := by
  unfold openS
  split
  · rw [hideS_size]; simp
  · exact Nat.zero_le _
theorem nil_own13 (w : World) (base : Nat) : OwnT w base (.slice none 0 0) [] := ⟨rfl, Or.inl ⟨rfl, rfl⟩⟩

theorem rec_inNext (w : World) (p : Nat) (s : InS) (l : List Value) (hr : RowIs w p 97 l) (hl : InCells s l) :
    Calls Tryz.prog 24 #[.pointer (some ⟨p, 0, none⟩)] w fun e w' => e = .returned (.int .i64 (s.next : Int)) ∧ w = w' := by
  obtain ⟨_, ⟨B, hB, hw⟩, _⟩ := hl
  have PN := win_nextO w p 201 s.next B _ l hr hw
  clear hr hw hB
  go_enter Tryz.func24, Tryz.ntmps24
  go_wp2_with fail
  with_reducible refine PN.mono ?_
  rintro e w' ⟨rfl, rfl⟩
  go_wp2
  go_ret
  exact ⟨rfl, rfl⟩
theorem rec_waits (w : World) (p : Nat) (s : InS) (l : List Value) (hs : s.Ok) (hr : RowIs w p 97 l) (hl : InCells s l) :
    Calls Tryz.prog 25 #[.pointer (some ⟨p, 0, none⟩)] w fun e w' => e = .returned (.int .i64 (s.W.length : Int)) ∧ Touch (fun _ => False) w w' := by
  obtain ⟨_, ⟨B, hB, hw⟩, _⟩ := hl
  have hn := hs.next
  have PA := win_aheadO w p 201 s.next (numsW s.W) B _ l hr hw hB (by omega)
  have hc := ahead_count (n := s.next) s.W hs.nodup (fun q hq => by have := hs.range q hq; omega)
  have hle := aheadTo_len s.next (numsW s.W) 64
  rw [hc] at hle
  clear hr hw hB hn
  go_enter Tryz.func25, Tryz.ntmps25
  go_wp2_with fail
  with_reducible refine PA.mono ?_
  rintro e w' ⟨v, rfl, hown, ht⟩
  obtain ⟨ao, cap, rfl⟩ := hown.shape
  rw [hc]
  go_wp2
  go_ret
  exact ⟨rfl, ht⟩

theorem rec_open_few (w : World) (p : Nat) (s : InS) (b : ByteArray) (l : List Value) (hr : RowIs w p 97 l) (hl : InCells s l) (h32 : s.key.size = 32) (hb : b.size < 24) :
    Calls Tryz.prog 20 #[.pointer (some ⟨p, 0, none⟩), .string b] w fun e w' => e = .returned (.tuple #[.slice none 0 0, .int .i64 2]) ∧ w = w' := by
  have PM := rec_made w p _ l s.key hr hl.keys h32
  have d : decide ((b.size : Int) < 24) = true := decide_eq_true (by omega)
  clear hr hl
  go_enter Tryz.func20, Tryz.ntmps20
  go_wp2_with fail
  with_reducible refine PM.mono ?_
  rintro e w' ⟨rfl, rfl⟩
  go_wp2
  go_ret2
  exact ⟨rfl, rfl⟩

set_option maxHeartbeats 1000000 in
theorem rec_open_num (w : World) (p : Nat) (s : InS) (b : ByteArray) (l : List Value) (hr : RowIs w p 97 l) (hl : InCells s l) (h32 : s.key.size = 32) (hb : 24 ≤ b.size) (hb2 : b.size ≤ 1000000) (hn : 400 ≤ seqN b) :
    Calls Tryz.prog 20 #[.pointer (some ⟨p, 0, none⟩), .string b] w fun e w' => e = .returned (.tuple #[.slice none 0 0, .int .i64 2]) ∧ Below w.heap.size w w' := by
  have PM := rec_made w p _ l s.key hr hl.keys h32
  have hi := seqN_is b
  have PB : Hid _ := fun w1 => octet_big (b.extract 0 8) w1 (by unfold maxLen; simp; omega)
  rw [← hi] at PB
  have d : decide ((b.size : Int) < 24) = false := decide_eq_false (by omega)
  have d2 : decide ((400 : Int) ≤ (seqN b : Int)) = true := decide_eq_true (by omega)
  have l8 : (8 : Int) ≤ (b.size : Int) := by omega
  clear hr hl hi hn
  generalize seqN b = x at *
  go_enter Tryz.func20, Tryz.ntmps20
  go_wp2_with fail
  with_reducible refine PM.mono ?_
  rintro e w' ⟨rfl, rfl⟩
  go_wp2_with fail
  go_region
  go_wp2_with fail
  with_reducible refine (PB.out _).mono ?_
  rintro e w' ⟨rfl, rfl⟩
  go_wp2
  go_ret2
  exact ⟨rfl, (Below.refl _ _).drew⟩

set_option maxHeartbeats 1000000 in
theorem rec_open_old (w : World) (p : Nat) (s : InS) (b : ByteArray) (l : List Value) (hs : s.Ok) (hr : RowIs w p 97 l) (hl : InCells s l) (h32 : s.key.size = 32) (hb2 : b.size ≤ 1000000) (hf : formR b = true) (ho : oldR s b = true) :
    Calls Tryz.prog 20 #[.pointer (some ⟨p, 0, none⟩), .string b] w fun e w' => e = .returned (.tuple #[.slice none 0 0, .int .i64 4]) ∧ Below w.heap.size w w' := by
  have PM := rec_made w p _ l s.key hr hl.keys h32
  obtain ⟨hb, hn⟩ := of_decide_eq_true hf
  have hi := seqN_is b
  have PB : Hid _ := fun w1 => octet_big (b.extract 0 8) w1 (by unfold maxLen; simp; omega)
  rw [← hi] at PB
  obtain ⟨B, hB, hw⟩ := hl.win
  have hnx := hs.next
  have PY : Hid _ := fun w1 (hr : RowIs w1 p 97 l) => win_mayO w1 p 201 s.next (numsW s.W) B (seqN b : Int) _ l hr hw hB (by omega) (by unfold I64W; omega)
  rw [may_old, ho] at PY
  have HR : Hid (RowIs w p 97 l) := hr
  have d : decide ((b.size : Int) < 24) = false := decide_eq_false (by omega)
  have d2 : decide ((400 : Int) ≤ (seqN b : Int)) = false := decide_eq_false (by omega)
  have l8 : (8 : Int) ≤ (b.size : Int) := by omega
  have hwr : IntKind.i64.wrap (seqN b : Int) = (seqN b : Int) := by rw [IntKind.wrap_i64]; omega
  clear hr hl hi hn hw hB hf ho
  generalize seqN b = x at *
  go_enter Tryz.func20, Tryz.ntmps20
  go_wp2_with fail
  with_reducible refine PM.mono ?_
  rintro e w' ⟨rfl, rfl⟩
  go_wp2_with fail
  go_region
  go_wp2_with fail
  with_reducible refine (PB.out _).mono ?_
  rintro e w' ⟨rfl, rfl⟩
  go_wp2_with fail
  with_reducible refine (PY.out _ (RowIs.drew HR.out)).mono ?_
  rintro e w' ⟨rfl, m, rfl⟩
  go_wp2
  go_ret2
  exact ⟨rfl, bel_drewNK _ _⟩

set_option maxHeartbeats 2000000 in
theorem rec_open_bad (w : World) (p : Nat) (s : InS) (b : ByteArray) (l : List Value) (hs : s.Ok) (hr : RowIs w p 97 l) (hl : InCells s l) (h32 : s.key.size = 32) (hb2 : b.size ≤ 1000000) (hf : formR b = true) (ho : oldR s b = false) (hop : openR s.key b = false) :
    Calls Tryz.prog 20 #[.pointer (some ⟨p, 0, none⟩), .string b] w fun e w' => e = .returned (.tuple #[.slice none 0 0, .int .i64 3]) ∧ (∃ l', RowIs w' p 97 l' ∧ InCells s l') ∧ Touch (fun k => k = p) w w' := by
  have PM := rec_made w p _ l s.key hr hl.keys h32
  obtain ⟨hb, hn⟩ := of_decide_eq_true hf
  have hi := seqN_is b
  have PB : Hid _ := fun w1 => octet_big (b.extract 0 8) w1 (by unfold maxLen; simp; omega)
  rw [← hi] at PB
  obtain ⟨B, hB, hw⟩ := hl.win
  have hnx := hs.next
  have PY : Hid _ := fun w1 (hr : RowIs w1 p 97 l) => win_mayO w1 p 201 s.next (numsW s.W) B (seqN b : Int) _ l hr hw hB (by omega) (by unfold I64W; omega)
  rw [may_old, ho] at PY
  have PO : Hid _ := fun w1 (hr : RowIs w1 p 97 l) => rec_of w1 p _ l s.key (seqN b) hr hl.keys h32 hn
  have PN : Hid _ := fun w1 => ratK_nonce (seqN b : Int) w1 (by omega) (by omega)
  have hks : (turnR s.key (seqN b / 8)).size = 32 := by
    cases seqN b / 8 with
    | zero => exact h32
    | succ m => exact turnR_size s.key m
  have hns := nonceR_size (seq := (seqN b : Int)) (by omega)
  have PX : Hid _ := fun w1 => box_open_yes (turnR s.key (seqN b / 8)) (nonceR (seqN b : Int)) (b.extract 8 b.size) (b.extract 0 8) w1 hks hns (by simp; omega) (by simp; omega)
  have hple : (plainR s.key b).size ≤ 1000000 := Nat.le_trans (openS_le _ _ _ _) (by simp; omega)
  have PU : Hid _ := fun w1 => padK_unpad (plainR s.key b) w1 hple
  have HX1 : Hid (openS (turnR s.key (seqN b / 8)) (nonceR (seqN b : Int)) (b.extract 8 b.size) (b.extract 0 8) = plainR s.key b) := rfl
  have HX2 : Hid (openOk (turnR s.key (seqN b / 8)) (nonceR (seqN b : Int)) (b.extract 8 b.size) (b.extract 0 8) = sealR s.key b) := rfl
  rw [HX1.out, HX2.out] at PX
  have HR : Hid (RowIs w p 97 l) := hr
  have HL : Hid (InCells s l) := hl
  have d : decide ((b.size : Int) < 24) = false := decide_eq_false (by omega)
  have d2 : decide ((400 : Int) ≤ (seqN b : Int)) = false := decide_eq_false (by omega)
  have l8 : (8 : Int) ≤ (b.size : Int) := by omega
  have hwr : IntKind.i64.wrap (seqN b : Int) = (seqN b : Int) := by rw [IntKind.wrap_i64]; omega
  have hb12 : (sealR s.key b && unpadOk (plainR s.key b)) = false := hop
  clear hr hl hi hn hw hB hf ho HX1 HX2 hple hks hns
  generalize turnR s.key (seqN b / 8) = KE at *
  generalize nonceR (seqN b : Int) = NN at *
  generalize plainR s.key b = PL at *
  generalize sealR s.key b = B1 at *
  generalize unpadOk PL = B2 at *
  generalize unpadS PL = UP at *
  clear hop
  generalize seqN b = x at *
  cases B1 with
  | false =>
    clear hb12
    go_enter Tryz.func20, Tryz.ntmps20
    go_wp2_with fail
    with_reducible refine PM.mono ?_
    rintro e w' ⟨rfl, rfl⟩
    go_wp2_with fail
    go_region
    go_wp2_with fail
    with_reducible refine (PB.out _).mono ?_
    rintro e w' ⟨rfl, rfl⟩
    go_wp2_with fail
    with_reducible refine (PY.out _ (RowIs.drew HR.out)).mono ?_
    rintro e w' ⟨rfl, m, rfl⟩
    have r1 : RowIs (w.drew.drewN m) p 97 l := row_drewNK (RowIs.drew HR.out) m
    have T1 : Touch (fun k => k = p) w (w.drew.drewN m) := ((Touch.refl (fun k => k = p) w).drew).trans (touch_drewNW _ _ m)
    clear PM PB PY
    generalize w.drew.drewN m = w1 at *
    go_wp2_with fail
    with_reducible refine (PO.out _ r1).mono ?_
    rintro e w4 ⟨rfl, ⟨l4, r4, k4, o4⟩, T4⟩
    have T4' := T1.trans T4
    have HL4 : Hid (InCells s l4) := HL.out.of k4 o4
    clear r1 T1 T4 PO k4 o4 HL HR
    go_wp2_with fail
    with_reducible refine (PN.out _).mono ?_
    rintro e w5 ⟨rfl, b5⟩
    have r5 := r4.below b5 r4.lt
    have T5 := touch_below13 T4' b5
    clear r4 T4' b5 PN
    go_wp2_with fail
    with_reducible refine (PX.out _).mono ?_
    rintro e w6 ⟨rfl, b6⟩
    have r6 := r5.below b6 r5.lt
    have T6 := touch_below13 T5 b6
    clear r5 T5 b6 PX
    go_wp2_with fail
    with_reducible refine (PU.out _).mono ?_
    rintro e w7 ⟨rfl, b7⟩
    have r7 := r6.below b7 r6.lt
    have T7 := touch_below13 T6 b7
    clear r6 T6 b7 PU
    go_wp2
    go_ret2
    exact ⟨rfl, ⟨l4, r7, HL4.out⟩, T7⟩
  | true =>
    obtain rfl : B2 = false := hb12
    go_enter Tryz.func20, Tryz.ntmps20
    go_wp2_with fail
    with_reducible refine PM.mono ?_
    rintro e w' ⟨rfl, rfl⟩
    go_wp2_with fail
    go_region
    go_wp2_with fail
    with_reducible refine (PB.out _).mono ?_
    rintro e w' ⟨rfl, rfl⟩
    go_wp2_with fail
    with_reducible refine (PY.out _ (RowIs.drew HR.out)).mono ?_
    rintro e w' ⟨rfl, m, rfl⟩
    have r1 : RowIs (w.drew.drewN m) p 97 l := row_drewNK (RowIs.drew HR.out) m
    have T1 : Touch (fun k => k = p) w (w.drew.drewN m) := ((Touch.refl (fun k => k = p) w).drew).trans (touch_drewNW _ _ m)
    clear PM PB PY
    generalize w.drew.drewN m = w1 at *
    go_wp2_with fail
    with_reducible refine (PO.out _ r1).mono ?_
    rintro e w4 ⟨rfl, ⟨l4, r4, k4, o4⟩, T4⟩
    have T4' := T1.trans T4
    have HL4 : Hid (InCells s l4) := HL.out.of k4 o4
    clear r1 T1 T4 PO k4 o4 HL HR
    go_wp2_with fail
    with_reducible refine (PN.out _).mono ?_
    rintro e w5 ⟨rfl, b5⟩
    have r5 := r4.below b5 r4.lt
    have T5 := touch_below13 T4' b5
    clear r4 T4' b5 PN
    go_wp2_with fail
    with_reducible refine (PX.out _).mono ?_
    rintro e w6 ⟨rfl, b6⟩
    have r6 := r5.below b6 r5.lt
    have T6 := touch_below13 T5 b6
    clear r5 T5 b6 PX
    go_wp2_with fail
    with_reducible refine (PU.out _).mono ?_
    rintro e w7 ⟨rfl, b7⟩
    have r7 := r6.below b7 r6.lt
    have T7 := touch_below13 T6 b7
    clear r6 T6 b7 PU
    go_wp2
    go_ret2
    exact ⟨rfl, ⟨l4, r7, HL4.out⟩, T7⟩

set_option maxHeartbeats 2000000 in
theorem rec_open_good (w : World) (p : Nat) (s : InS) (b : ByteArray) (l : List Value) (hs : s.Ok) (hr : RowIs w p 97 l) (hl : InCells s l) (h32 : s.key.size = 32) (hb2 : b.size ≤ 1000000) (hf : formR b = true) (ho : oldR s b = false) (hop : openR s.key b = true) :
    Calls Tryz.prog 20 #[.pointer (some ⟨p, 0, none⟩), .string b] w fun e w' => ∃ v, e = .returned (.tuple #[v, .int .i64 0]) ∧ OwnT w' w.heap.size v (moreR s b).1 ∧ (∃ l', RowIs w' p 97 l' ∧ InCells ⟨s.key, (moreR s b).2.1, (moreR s b).2.2⟩ l') ∧ Touch (fun k => k = p) w w' := by
  have PM := rec_made w p _ l s.key hr hl.keys h32
  obtain ⟨hb, hn⟩ := of_decide_eq_true hf
  have hi := seqN_is b
  have PB : Hid _ := fun w1 => octet_big (b.extract 0 8) w1 (by unfold maxLen; simp; omega)
  rw [← hi] at PB
  obtain ⟨B, hB, hw⟩ := hl.win
  have hnx := hs.next
  have PY : Hid _ := fun w1 (hr : RowIs w1 p 97 l) => win_mayO w1 p 201 s.next (numsW s.W) B (seqN b : Int) _ l hr hw hB (by omega) (by unfold I64W; omega)
  rw [may_old, ho] at PY
  have PO : Hid _ := fun w1 (hr : RowIs w1 p 97 l) => rec_of w1 p _ l s.key (seqN b) hr hl.keys h32 hn
  have PN : Hid _ := fun w1 => ratK_nonce (seqN b : Int) w1 (by omega) (by omega)
  have hks : (turnR s.key (seqN b / 8)).size = 32 := by
    cases seqN b / 8 with
    | zero => exact h32
    | succ m => exact turnR_size s.key m
  have hns := nonceR_size (seq := (seqN b : Int)) (by omega)
  have PX : Hid _ := fun w1 => box_open_yes (turnR s.key (seqN b / 8)) (nonceR (seqN b : Int)) (b.extract 8 b.size) (b.extract 0 8) w1 hks hns (by simp; omega) (by simp; omega)
  have hple : (plainR s.key b).size ≤ 1000000 := Nat.le_trans (openS_le _ _ _ _) (by simp; omega)
  have PU : Hid _ := fun w1 => padK_unpad (plainR s.key b) w1 hple
  have HX1 : Hid (openS (turnR s.key (seqN b / 8)) (nonceR (seqN b : Int)) (b.extract 8 b.size) (b.extract 0 8) = plainR s.key b) := rfl
  have HX2 : Hid (openOk (turnR s.key (seqN b / 8)) (nonceR (seqN b : Int)) (b.extract 8 b.size) (b.extract 0 8) = sealR s.key b) := rfl
  rw [HX1.out, HX2.out] at PX
  have HR : Hid (RowIs w p 97 l) := hr
  have HL : Hid (InCells s l) := hl
  have d : decide ((b.size : Int) < 24) = false := decide_eq_false (by omega)
  have d2 : decide ((400 : Int) ≤ (seqN b : Int)) = false := decide_eq_false (by omega)
  have l8 : (8 : Int) ≤ (b.size : Int) := by omega
  have hwr : IntKind.i64.wrap (seqN b : Int) = (seqN b : Int) := by rw [IntKind.wrap_i64]; omega
  obtain ⟨hb1, hb22⟩ : sealR s.key b = true ∧ unpadOk (plainR s.key b) = true := Bool.and_eq_true_iff.1 hop
  rw [hb1] at PX
  rw [hb22] at PU
  have PT : Hid _ := fun w1 l1 (hr : RowIs w1 p 97 l1) (hl : InCells s l1) => rec_take w1 p s b l1 hs hr hl ho
  have HUP : Hid (unpadS (plainR s.key b) = textR s.key b) := rfl
  rw [HUP.out] at PU
  clear hr hl hi hn hw hB hf ho HX1 HX2 hple hks hns
  clear hb1 hb22 hop HUP
  generalize turnR s.key (seqN b / 8) = KE at *
  generalize nonceR (seqN b : Int) = NN at *
  generalize plainR s.key b = PL at *
  generalize textR s.key b = TX at *
  generalize seqN b = x at *
  go_enter Tryz.func20, Tryz.ntmps20
  go_wp2_with fail
  with_reducible refine PM.mono ?_
  rintro e w' ⟨rfl, rfl⟩
  go_wp2_with fail
  go_region
  go_wp2_with fail
  with_reducible refine (PB.out _).mono ?_
  rintro e w' ⟨rfl, rfl⟩
  go_wp2_with fail
  with_reducible refine (PY.out _ (RowIs.drew HR.out)).mono ?_
  rintro e w' ⟨rfl, m, rfl⟩
  have r1 : RowIs (w.drew.drewN m) p 97 l := row_drewNK (RowIs.drew HR.out) m
  have T1 : Touch (fun k => k = p) w (w.drew.drewN m) := ((Touch.refl (fun k => k = p) w).drew).trans (touch_drewNW _ _ m)
  clear PM PB PY
  generalize w.drew.drewN m = w1 at *
  go_wp2_with fail
  with_reducible refine (PO.out _ r1).mono ?_
  rintro e w4 ⟨rfl, ⟨l4, r4, k4, o4⟩, T4⟩
  have T4' := T1.trans T4
  have HL4 : Hid (InCells s l4) := HL.out.of k4 o4
  clear r1 T1 T4 PO k4 o4 HL HR
  go_wp2_with fail
  with_reducible refine (PN.out _).mono ?_
  rintro e w5 ⟨rfl, b5⟩
  have r5 := r4.below b5 r4.lt
  have T5 := touch_below13 T4' b5
  clear r4 T4' b5 PN
  go_wp2_with fail
  with_reducible refine (PX.out _).mono ?_
  rintro e w6 ⟨rfl, b6⟩
  have r6 := r5.below b6 r5.lt
  have T6 := touch_below13 T5 b6
  clear r5 T5 b6 PX
  go_wp2_with fail
  with_reducible refine (PU.out _).mono ?_
  rintro e w7 ⟨rfl, b7⟩
  have r7 := r6.below b7 r6.lt
  have T7 := touch_below13 T6 b7
  clear r6 T6 b7 PU
  have PT7 := PT.out _ _ r7 HL4.out
  clear r7 PT HL4
  go_wp2_with fail
  with_reducible refine PT7.mono ?_
  rintro e w8 ⟨v, rfl, hown, hrow, T8⟩
  have hz := T7.size
  go_wp2
  go_ret2
  exact ⟨v, rfl, hown.base hz, hrow, T7.trans T8⟩

end Go.Proofs.YtanghehmfagmfaaGreatDoor

/-
  What package record's functions tell, at this program: the contracts that the laws ask for.
-/
namespace Go.Proofs.YtanghehmfagmfaaGreatDoor
open Go.RowKit
set_option linter.unusedVariables false
set_option maxRecDepth 100000
set_option linter.unusedSimpArgs false

/-- An Out of one block; an In of one block. -/
def OutOne (w : World) (bl : Nat → Prop) (p : Nat) (key : ByteArray) (n : Nat) : Prop := (∀ k, bl k ↔ k = p) ∧ key.size = 32 ∧ n ≤ 2000000 ∧ ∃ l, RowIs w p 91 l ∧ OutCells key n l
def InOne (w : World) (bl : Nat → Prop) (p : Nat) (s : InS) : Prop := (∀ k, bl k ↔ k = p) ∧ s.Ok ∧ s.key.size = 32 ∧ ∃ l, RowIs w p 97 l ∧ InCells s l
theorem one_touch {bl : Nat → Prop} {p : Nat} {w w' : World} (hbl : ∀ k, bl k ↔ k = p) (h : Touch (fun k => k = p) w w') : Touch bl w w' := h.mono (fun k _ hk => (hbl k).2 hk)

def recKeeps : RecordKeeps where
  OutAt := OutOne
  InAt := InOne
  outOk h := h.2.1
  inOk h := ⟨h.2.1, h.2.2.1⟩
  outLt := by
    rintro w bl p key n ⟨hbl, _, _, l, hr, _⟩ k hk
    have := (hbl k).1 hk
    subst this
    exact hr.lt
  inLt := by
    rintro w bl p s ⟨hbl, _, _, l, hr, _⟩ k hk
    have := (hbl k).1 hk
    subst this
    exact hr.lt
  outKeep := by
    rintro S w w' bl p key n ⟨hbl, h1, h2, l, hr, hl⟩ ht hn
    exact ⟨hbl, h1, h2, l, row_touch13 hr ht (hn p ((hbl p).2 rfl)), hl⟩
  inKeep := by
    rintro S w w' bl p s ⟨hbl, h1, h2, l, hr, hl⟩ ht hn
    exact ⟨hbl, h1, h2, l, row_touch13 hr ht (hn p ((hbl p).2 rfl)), hl⟩
  newOut := by
    intro w key h32
    refine (rec_newOut w key h32).mono ?_
    rintro e w' ⟨p, rfl, hr, hp, hb⟩
    exact ⟨fun k => k = p, p, rfl, ⟨fun k => Iff.rfl, h32, by omega, _, hr, outCells_is key⟩, fun k hk => by omega, hb⟩
  newOutNo := fun w key h1 h2 => rec_newOutNo w key h1 h2
  newIn := by
    intro w key h32
    refine (rec_newIn w key h32).mono ?_
    rintro e w' ⟨p, rfl, hr, hp, hb⟩
    exact ⟨fun k => k = p, p, rfl, ⟨fun k => Iff.rfl, InS.ok_zero key, h32, _, hr, inCells_is key⟩, fun k hk => by omega, hb⟩
  sealOk := by
    rintro w bl p key n t ⟨hbl, h32, hm, l, hr, hl⟩ ht hn
    refine (rec_seal w p key n t l hr hl h32 ht hn).mono ?_
    rintro e w' ⟨rfl, ⟨l', hr', hl'⟩, hT⟩
    exact ⟨rfl, bl, ⟨hbl, h32, by omega, l', hr', hl'⟩, fun k hk => Or.inl hk, one_touch hbl hT⟩
  sealLarge := by
    rintro w bl p key n t ⟨hbl, h32, hm, l, hr, hl⟩ h1 ht
    refine (rec_sealLarge w p key n t l hr hl h32 h1 ht).mono ?_
    rintro e w' ⟨s, rfl, hb⟩
    exact ⟨s, rfl, bl, ⟨hbl, h32, hm, l, hr.below hb hr.lt, hl⟩, fun k hk => Or.inl hk, Touch.of_below hb⟩
  sealEnd := by
    rintro w bl p key n t ⟨hbl, h32, hm, l, hr, hl⟩ ht h4 hn
    refine (rec_sealEnd w p key n t l hr hl h32 ht h4 hn).mono ?_
    rintro e w' ⟨s, rfl, ⟨l', hr', hl'⟩, hT⟩
    exact ⟨s, rfl, bl, ⟨hbl, h32, by omega, l', hr', hl'⟩, fun k hk => Or.inl hk, one_touch hbl hT⟩
  outNext := by
    rintro w bl p key n ⟨hbl, h32, hm, l, hr, hl⟩ hn
    refine (rec_outNext w p _ l n hr hl.next hm).mono ?_
    rintro e w' ⟨rfl, rfl⟩
    exact ⟨by rw [show min (n : Int) 400 = (n : Int) by omega], 0, rfl⟩
  outNextEnd := by
    rintro w bl p key n ⟨hbl, h32, hm, l, hr, hl⟩ hn
    refine (rec_outNext w p _ l n hr hl.next hm).mono ?_
    rintro e w' ⟨rfl, rfl⟩
    exact ⟨by rw [show min (n : Int) 400 = 400 by omega], 0, rfl⟩
  open_ := by
    rintro w bl p s b ⟨hbl, hs, h32, l, hr, hl⟩ hb
    have nb : ∀ k, (Value.slice none 0 0).ownBlock ≠ some k := fun k e => by simp [Value.ownBlock] at e
    rcases err_cases s b with ⟨he, hf⟩ | ⟨he, hf, ho⟩ | ⟨he, hf, ho, hop⟩ | ⟨he, hf, ho, hop⟩
    · obtain ⟨n1, n2⟩ := step_no (s := s) (b := b) (by omega)
      rw [he, n1, n2]
      by_cases h24 : b.size < 24
      · refine (rec_open_few w p s b l hr hl h32 h24).mono ?_
        rintro e w' ⟨rfl, rfl⟩
        exact ⟨_, bl, rfl, nil_own13 _ _, ⟨hbl, hs, h32, l, hr, hl⟩, fun k hk => ⟨Or.inl hk, nb k⟩, Touch.refl _ _⟩
      · have hn : 400 ≤ seqN b := by
          have := of_decide_eq_false hf
          omega
        refine (rec_open_num w p s b l hr hl h32 (by omega) hb hn).mono ?_
        rintro e w' ⟨rfl, hbel⟩
        exact ⟨_, bl, rfl, nil_own13 _ _, ⟨hbl, hs, h32, l, hr.below hbel hr.lt, hl⟩, fun k hk => ⟨Or.inl hk, nb k⟩, Touch.of_below hbel⟩
    · obtain ⟨n1, n2⟩ := step_no (s := s) (b := b) (by omega)
      rw [he, n1, n2]
      refine (rec_open_old w p s b l hs hr hl h32 hb hf ho).mono ?_
      rintro e w' ⟨rfl, hbel⟩
      exact ⟨_, bl, rfl, nil_own13 _ _, ⟨hbl, hs, h32, l, hr.below hbel hr.lt, hl⟩, fun k hk => ⟨Or.inl hk, nb k⟩, Touch.of_below hbel⟩
    · obtain ⟨n1, n2⟩ := step_no (s := s) (b := b) (by omega)
      rw [he, n1, n2]
      refine (rec_open_bad w p s b l hs hr hl h32 hb hf ho hop).mono ?_
      rintro e w' ⟨rfl, ⟨l', hr', hl'⟩, hT⟩
      exact ⟨_, bl, rfl, nil_own13 _ _, ⟨hbl, hs, h32, l', hr', hl'⟩, fun k hk => ⟨Or.inl hk, nb k⟩, one_touch hbl hT⟩
    · obtain ⟨n1, n2⟩ := step_yes (s := s) (b := b) he
      have hs2 := hs.step b
      rw [n2] at hs2
      rw [he, n1, n2]
      refine (rec_open_good w p s b l hs hr hl h32 hb hf ho hop).mono ?_
      rintro e w' ⟨v, rfl, hown, ⟨l', hr', hl'⟩, hT⟩
      refine ⟨v, bl, rfl, hown, ⟨hbl, hs2, h32, l', hr', hl'⟩, fun k hk => ⟨Or.inl hk, fun hv => ?_⟩, one_touch hbl hT⟩
      have h1 := (World.ownsRow.lt hown k hv).1
      have h2 := (hbl k).1 hk
      have h3 := hr.lt
      omega
  inNext := by
    rintro w bl p s ⟨hbl, hs, h32, l, hr, hl⟩
    refine (rec_inNext w p s l hr hl).mono ?_
    rintro e w' ⟨rfl, rfl⟩
    exact ⟨rfl, 0, rfl⟩
  inWaits := by
    rintro w bl p s ⟨hbl, hs, h32, l, hr, hl⟩
    refine (rec_waits w p s l hs hr hl).mono ?_
    rintro e w' ⟨rfl, ht⟩
    exact ⟨rfl, bl, ⟨hbl, hs, h32, l, row_touch13 hr ht (fun h => h), hl⟩, fun k hk => Or.inl hk, ht.mono (fun _ _ h => h.elim)⟩
  sealNil := fun w t _ => rec_sealNil w t
  openNil := fun w b _ => rec_openNil w b
  outNextNil := rec_outNextNil
  inNextNil := rec_inNextNil
  waitsNil := rec_waitsNil

end Go.Proofs.YtanghehmfagmfaaGreatDoor
