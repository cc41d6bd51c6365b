/-
  Parts of this proof, one behind the other: Sha4, Reg1, Reg3, Reg4, Reg5.
-/
import Derived.Test.YtanghehmfagmfaaGreatDoorBun8
import Derived.Deep.RegionHeld3
import Derived.Test.YtanghehmfagmfaaGreatDoorBun12
import Derived.Test.YtanghehmfagmfaaGreatDoorBun17
import Derived.Test.YtanghehmfagmfaaGreatDoorBun1
import Derived.Test.YtanghehmfagmfaaGreatDoorBun4

/-
  The contract of package digest's schedule.
-/
namespace Go.Proofs.YtanghehmfagmfaaGreatDoor
open Go.RowKit
set_option linter.unusedVariables false
set_option maxRecDepth 100000

set_option maxRecDepth 100000 in
set_option maxHeartbeats 1000000 in
theorem dig_schedule (b o : Nat) (blk : List UInt8) (w : World) (hl : blk.length = 64) (hr : w.rangeAt b o (cells8 blk)) (hb : b < w.heap.size) :
    Calls Tryz.prog 251 #[.pointer (some ⟨b, o, none⟩)] w fun e w' => e = .returned (.agg (cells32 (wTo blk 64)).toArray) ∧ Below w.heap.size w w' := by
  go_enter Tryz.func251, Tryz.ntmps251
  go_wp2_with (first | (refine wpList_alloc rfl rfl run_alloc64 ?_))
  have hr2 : RowIs ((w.alloc (.cells (cells32 z64).toArray 247)).alloc (.cells (cells32 z64).toArray 247)) (w.heap.size + 1) 247 (cells32 z64) := by
    have := RowIs.new (w.alloc (.cells (cells32 z64).toArray 247)) 247 (cells32 z64)
    simpa using this
  have hr1 : RowIs ((w.alloc (.cells (cells32 z64).toArray 247)).alloc (.cells (cells32 z64).toArray 247)) w.heap.size 247 (cells32 z64) := (RowIs.new w _ _).alloc _
  have hb2 : Below w.heap.size w ((w.alloc (.cells (cells32 z64).toArray 247)).alloc (.cells (cells32 z64).toArray 247)) := ((Below.refl _ _).alloc (Nat.le_refl _) _).alloc (by simp) _
  generalize (w.alloc (.cells (cells32 z64).toArray 247)).alloc (.cells (cells32 z64).toArray 247) = w2 at *
  go_loopw [6] (fun i wr => ∃ k : Nat, k ≤ 16 ∧ i = .int .i64 k ∧ RowIs wr (w.heap.size + 1) 247 (cells32 (wTo blk k ++ List.replicate (64 - k) 0)) ∧ RowIs wr w.heap.size 247 (cells32 z64) ∧ Below w.heap.size w wr) (fun i _ => 16 - (intOf i).toNat)
  case atStart => exact ⟨0, by omega, rfl, hr2, hr1, hb2⟩
  case round =>
    clear hr2 hr1 hb2
    obtain ⟨k, hk, rfl, hrow, hrow1, hbel⟩ := hrel
    by_cases hlt : k < 16
    · have hsl := slice_lh wr b o (4 * (k : Int)) (4 * ((k : Int) + 1)) (by omega) (by omega) (by omega) (by omega)
      rw [show (4 * (k : Int)).toNat = 4 * k from by omega, show (4 * ((k : Int) + 1) - 4 * (k : Int)).toNat = 4 from by omega] at hsl
      have hp : ((blk.drop (4 * k)).take 4).length = 4 := by simp; omega
      have hcv : (convert 51 9 (.slice (some ⟨b, o + 4 * k, none⟩) 4 (64 - 4 * k))).run Tryz.prog wr = .ok (.string (str ((blk.drop (4 * k)).take 4))) wr := by
        refine range_string ?_ hp.symm
        rw [← cells8_part]
        exact range_part (range_below hr hbel hb) _ _
      have HB : Hid (bigS (str ((blk.drop (4 * k)).take 4)) = wNext blk (wTo blk k)) := by rw [wNext_lo blk k hlt]; exact big4 _ (by omega)
      have hw : W32 (wNext blk (wTo blk k)) := by rw [wNext_lo blk k hlt]; exact num4_w _ (by omega)
      have hw0 := hw.1
      have hw1 := hw.2
      have HN : Hid ((cells32 (wTo blk k ++ List.replicate (64 - k) 0)).set k (.int .u32 (wNext blk (wTo blk k))) = cells32 (wTo blk (k + 1) ++ List.replicate (64 - (k + 1)) 0)) := row_next blk k (by omega)
      generalize wNext blk (wTo blk k) = nx at *
      have hst : (str ((blk.drop (4 * k)).take 4)).size ≤ maxLen := by rw [str_size, hp]; decide
      generalize str ((blk.drop (4 * k)).take 4) = st at *
      have hcell := hrow.cellAt (j := k) (List.getElem?_eq_getElem (by rw [row_len blk k (by omega)]; omega))
      have hfr := hrow.frozen k
      go_wp2_with (first | (go_at_call 43; refine (octet_big _ _ hst).mono ?_; rintro e w' ⟨rfl, rfl⟩; rw [HB.out]))
      go_roundw
      case rel => exact ⟨k + 1, by omega, by go_num, by rw [← HN.out]; exact hrow.set _ _, hrow1.setOther (by simp) _, hbel.setCell (by simp) _⟩
      case measure => simp [intOf]; omega
    · have hk16 : k = 16 := by omega
      have hrow16 := hrow
      rw [hk16] at hrow16
      clear hrow hk16
      go_wp2
      clear hlt hk
      go_loopw [5] (fun i wr => ∃ k : Nat, 16 ≤ k ∧ k ≤ 64 ∧ i = .int .i64 k ∧ RowIs wr (w.heap.size + 1) 247 (cells32 (wTo blk k ++ List.replicate (64 - k) 0)) ∧ RowIs wr w.heap.size 247 (cells32 z64) ∧ Below w.heap.size w wr) (fun i _ => 64 - (intOf i).toNat)
      case atStart => exact ⟨16, by omega, by omega, rfl, hrow16, hrow1, hbel⟩
      case round =>
        clear hrow16 hrow1 hbel
        obtain ⟨k, hk0, hk, rfl, hrow, hrow1, hbel⟩ := hrel
        by_cases hlt : k < 64
        · have c16 := hrow.cellAt (row_at blk k (k - 16) (by omega) hk)
          have c15 := hrow.cellAt (row_at blk k (k - 15) (by omega) hk)
          have c7 := hrow.cellAt (row_at blk k (k - 7) (by omega) hk)
          have c2 := hrow.cellAt (row_at blk k (k - 2) (by omega) hk)
          have HN : Hid ((cells32 (wTo blk k ++ List.replicate (64 - k) 0)).set k (.int .u32 (wNext blk (wTo blk k))) = cells32 (wTo blk (k + 1) ++ List.replicate (64 - (k + 1)) 0)) := row_next blk k (by omega)
          have HW : Hid (wNext blk (wTo blk k) = _) := wNext_hi blk k (by omega)
          have w16 := getD_w (wTo_w blk k) (k - 16)
          have w15 := getD_w (wTo_w blk k) (k - 15)
          have w7 := getD_w (wTo_w blk k) (k - 7)
          have w2 := getD_w (wTo_w blk k) (k - 2)
          have hcell := hrow.cellAt (j := k) (List.getElem?_eq_getElem (by rw [row_len blk k (by omega)]; omega))
          have hfr := hrow.frozen k
          generalize (cells32 (wTo blk k ++ List.replicate (64 - k) 0))[k]'_ = old at hcell
          generalize (wTo blk k).getD (k - 16) 0 = x16 at *
          generalize (wTo blk k).getD (k - 15) 0 = x15 at *
          generalize (wTo blk k).getD (k - 7) 0 = x7 at *
          generalize (wTo blk k).getD (k - 2) 0 = x2 at *
          have a16 : IntKind.i64.wrap ((k : Int) - 16) = (k : Int) - 16 := IntWalk.i64_in _ ⟨by omega, by omega⟩
          have a15 : IntKind.i64.wrap ((k : Int) - 15) = (k : Int) - 15 := IntWalk.i64_in _ ⟨by omega, by omega⟩
          have a7 : IntKind.i64.wrap ((k : Int) - 7) = (k : Int) - 7 := IntWalk.i64_in _ ⟨by omega, by omega⟩
          have a2 : IntKind.i64.wrap ((k : Int) - 2) = (k : Int) - 2 := IntWalk.i64_in _ ⟨by omega, by omega⟩
          have i16 : ∀ w', (Instr.indexAt 247 (.pointer (some ⟨w.heap.size + 1, 0, none⟩)) (.int .i64 ((k : Int) - 16))).run Tryz.prog w' = .ok (.pointer (some ⟨w.heap.size + 1, k - 16, none⟩)) w' := fun w' => by have := index39 w' (w.heap.size + 1) 0 ((k : Int) - 16) (k - 16) (by omega) (by omega); rwa [Nat.zero_add] at this
          have i15 : ∀ w', (Instr.indexAt 247 (.pointer (some ⟨w.heap.size + 1, 0, none⟩)) (.int .i64 ((k : Int) - 15))).run Tryz.prog w' = .ok (.pointer (some ⟨w.heap.size + 1, k - 15, none⟩)) w' := fun w' => by have := index39 w' (w.heap.size + 1) 0 ((k : Int) - 15) (k - 15) (by omega) (by omega); rwa [Nat.zero_add] at this
          have i7 : ∀ w', (Instr.indexAt 247 (.pointer (some ⟨w.heap.size + 1, 0, none⟩)) (.int .i64 ((k : Int) - 7))).run Tryz.prog w' = .ok (.pointer (some ⟨w.heap.size + 1, k - 7, none⟩)) w' := fun w' => by have := index39 w' (w.heap.size + 1) 0 ((k : Int) - 7) (k - 7) (by omega) (by omega); rwa [Nat.zero_add] at this
          have i2 : ∀ w', (Instr.indexAt 247 (.pointer (some ⟨w.heap.size + 1, 0, none⟩)) (.int .i64 ((k : Int) - 2))).run Tryz.prog w' = .ok (.pointer (some ⟨w.heap.size + 1, k - 2, none⟩)) w' := fun w' => by have := index39 w' (w.heap.size + 1) 0 ((k : Int) - 2) (k - 2) (by omega) (by omega); rwa [Nat.zero_add] at this
          have ne16 : ¬ k = k - 16 := by omega
          have ne15 : ¬ k = k - 15 := by omega
          have ne7 : ¬ k = k - 7 := by omega
          have ne2 : ¬ k = k - 2 := by omega
          have k0 : (0 : Int) ≤ (k : Int) := by omega
          have k64 : (k : Int) < 64 := by omega
          go_wp2_with fail
          go_region_held3 (fun w' => w'.cell? ⟨w.heap.size + 1, k - 16, none⟩ = some (.int .u32 x16) ∧ w'.cell? ⟨w.heap.size + 1, k - 15, none⟩ = some (.int .u32 x15) ∧ w'.cell? ⟨w.heap.size + 1, k - 7, none⟩ = some (.int .u32 x7) ∧ w'.cell? ⟨w.heap.size + 1, k - 2, none⟩ = some (.int .u32 x2)) (first | (go_split_ands; refine ⟨?_, ?_, ?_, ?_⟩ <;> first | assumption | (refine cell_set_other ?_ ?_; assumption; omega) | (rw [World.cell?_drew]; assumption)) | go_keep) (first | (go_at_call 254; refine (dig_sigma0 _ _ w15).mono ?_; rintro e w' ⟨rfl, rfl⟩) | (go_at_call 255; refine (dig_sigma1 _ _ w2).mono ?_; rintro e w' ⟨rfl, rfl⟩))
          go_wp2
          go_roundw
          case rel =>
            have e : (((x16 + sg0 x15) % 4294967296 + x7) % 4294967296 + sg1 x2) % 4294967296 = wNext blk (wTo blk k) := by
              rw [HW.out]; rfl
            rw [e]
            exact ⟨k + 1, by omega, by omega, by go_num, by rw [← HN.out]; exact hrow.set _ _, hrow1.setOther (by simp) _, (hbel.setCell (by simp) _).drew⟩
          case measure => simp [intOf]; omega
        · have hk64 : k = 64 := by omega
          have hfull : cells32 (wTo blk k ++ List.replicate (64 - k) 0) = cells32 (wTo blk 64) := by rw [hk64]; simp
          rw [hfull] at hrow
          have hlen : (cells32 (wTo blk 64)).length = 64 := by rw [cells32_len, wTo_len]
          have hone := all_oneCell_toArray (cells32_one (wTo blk 64))
          clear hfull hk64
          obtain ⟨cs, hcs⟩ : ∃ cs, cs = cells32 (wTo blk 64) := ⟨_, rfl⟩
          rw [← hcs] at hrow hlen hone
          have HCS : Hid (cs = cells32 (wTo blk 64)) := hcs
          clear hcs
          go_wp2_with (first | (refine wpList_load_mid rfl 247 _ rfl (w.heap.size + 1) 0 rfl cs _ (hrow.range (by rw [List.drop_zero, List.take_length])) Tryz.underlying247 rfl (by rw [size64, hlen]) ?_) | (refine wpList_store_mid rfl 247 _ _ rfl w.heap.size 0 cs.toArray rfl rfl (hrow1.there (by simp [hlen, cells32_len, z64_len])) (by rw [size64]; simp [hlen]) hone ?_))
          refine bodyPost_ret (v := .agg cs.toArray) (results_row rfl _ _ w.heap.size cs _ (by simp [Act.put]) ?_ Tryz.underlying247 rfl (by rw [size64, hlen])) rfl ⟨by rw [HCS.out], bel_setCells hbel (Nat.le_refl _) _ _⟩
          exact World.rangeAt_setCells_same _ _ _ _ (hrow1.there (by simp [hlen, cells32_len, z64_len]))

end Go.Proofs.YtanghehmfagmfaaGreatDoor

/-
  Operations in a region that draws its order, one by one.
-/
namespace Go.Proofs.YtanghehmfagmfaaGreatDoor
open Go.RowKit
set_option linter.unusedVariables false
set_option maxRecDepth 100000
set_option linter.unusedSimpArgs false

section
variable {P : Program} {ops : Array Oper} {Q : Exit → Act → World → Prop}

def noOp : Option Tmp × Op := (none, .move (.tmp 0))
/-- What is to be shown of operation i: from the facts that those it waits for have left, its own. -/
def StepP (P : Program) (Q : Exit → Act → World → Prop) (l : List (Option Tmp × Op)) (L : List (List Nat)) (F : List (Value → World → Prop)) (R : World → Prop) (a0 : Act) (i : Nat) : Prop :=
  ∀ (o : Oper), o.dst = (l.getD i noOp).1 → o.op = (l.getD i noOp).2 → ∀ a w, R w → (∀ t, some t ∉ l.map (·.1) → a.eval (.tmp t) = a0.eval (.tmp t)) →
    (∀ j ∈ L.getD i [], F.getD j (fun _ _ => True) (laidAt a (l.getD j noOp).1) w) →
    o.wp P a w (fun a' w' => ∃ v, a' = a.put o.dst v ∧ Below w.heap.size w w' ∧ F.getD i (fun _ _ => True) (keepIf o.dst v) w') Q
def Kept (f : Value → World → Prop) : Prop := ∀ v w w', Below w.heap.size w w' → f v w → f v w'
def KeptAll : List (Value → World → Prop) → Prop
  | [] => True
  | f :: r => Kept f ∧ KeptAll r
theorem KeptAll.at : ∀ {F : List (Value → World → Prop)}, KeptAll F → ∀ i, Kept (F.getD i (fun _ _ => True))
  | [], _, _ => fun _ _ _ _ _ => True.intro
  | _ :: _, h, 0 => h.1
  | _ :: _, h, i + 1 => KeptAll.at h.2 i

theorem st_v {o : Oper} {a : Act} {w : World} {d : Tmp} {v : Value} {f : Value → World → Prop} (hd : o.dst = some d) (h : (execOp a.eval o).run P w = .ok (.value v) w) (hf : f v w) :
    o.wp P a w (fun a' w' => ∃ v, a' = a.put o.dst v ∧ Below w.heap.size w w' ∧ f (keepIf o.dst v) w') Q := by
  unfold Oper.wp
  rw [h, hd]
  exact ⟨v, by rw [← hd], Below.refl _ _, hf⟩
theorem run_field' {a : Act} {o : Oper} {x : Operand} {t : TypeId} {b i k n : Nat} {fs : Array Field} {f : Field} (ho : o.op = .fieldAddr t x i) (hx : a.eval x = .pointer (some ⟨b, k, none⟩)) (hu : P.underlying t = some (.struct fs)) (hf : fs[i]? = some f) (hz : (P.info? f.type).map (·.size) = some (n + 1)) (w : World) :
    (execOp a.eval o).run P w = .ok (.value (.pointer (some ⟨b, k + f.offset, none⟩))) w := by
  have hz' : ∀ w, (sizeOf f.type).run P w = .ok (n + 1) w := fun w => by
    cases hi : P.info? f.type with
    | none => simp [hi] at hz
    | some i => simp [hi] at hz; simp [sizeOf, typeInfo, hi, hz]
  revert hx
  generalize a.eval = ev
  intro hx
  unfold execOp
  simp [ho, hx, go_sem, run_underlying hu, hf, hz']
theorem run_addI' {a : Act} {o : Oper} {x y : Operand} {t u : TypeId} {i j : Int} (ho : o.op = .binOp .add t x y u) (hx : a.eval x = .int .i64 i) (hy : a.eval y = .int .i64 j) (hu : P.underlying t = some (.int .i64)) (w : World) :
    (execOp a.eval o).run P w = .ok (.value (.int .i64 (IntKind.i64.wrap (i + j)))) w := by
  unfold execOp
  simp only [ho, hx, hy]
  simp [go_sem, hu]
end
end Go.Proofs.YtanghehmfagmfaaGreatDoor

/-
  A region that draws its order, told by one invariant over what has come up; and 'a, b, d, e, f, g := c, c, c, c, c, c' of rows.
-/
namespace Go.Proofs.YtanghehmfagmfaaGreatDoor
open Go.RowKit
set_option linter.unusedVariables false
set_option maxRecDepth 100000
set_option linter.unusedSimpArgs false

section
variable {P : Program} {ops : Array Oper} {Q : Exit → Act → World → Prop}
theorem wp_region_I {id m : Nat} {a0 : Act} {w0 : World} (I : (Nat → Bool) → Act → World → Prop) (hm : P.follows .mixedOrders = true) (hok : regOk ops m = true)
    (h0 : I (fun _ => false) a0 w0.drew)
    (hstep : ∀ i (o : Oper) (L : Nat → Bool) a w, ops[i]? = some o → L i = false → (∀ j, awaits .any ops i j = true → L j = true) → I L a w → o.wp P a w (fun a' w' => I (fun j => j == i || L j) a' w') Q)
    (hend : ∀ L a w, (∀ i, i < ops.size → L i = true) → I L a w → Q .normal a w) : (Code.region id ops true).wp P Q a0 w0 := by
  unfold regOk at hok
  simp only [Bool.and_eq_true] at hok
  obtain ⟨⟨⟨hg, ht⟩, hnd⟩, hlt⟩ := hok
  have hpl : ∀ i (o : Oper), ops[i]? = some o → o.guard = none := fun i o ho => by
    have := Array.all_eq_true'.1 hg o (Array.mem_of_getElem? ho)
    simpa using this
  refine wp_region_any hm ?_
  have key : ∀ (fuel : Nat) (listed : Array Bool) (a : Act) (w : World), listed.size = ops.size → (listed.toList.count false = fuel) → I (fun j => listed.getD j false) a w → wpAny P .any ops Q fuel listed a w := by
    intro fuel
    induction fuel with
    | zero =>
      intro listed a w hs hc hI
      have hall : ∀ i, i < ops.size → listed.getD i false = true := fun i hi => by
        have := count_zero hc i (by simpa [hs] using hi)
        simp only [Array.getElem?_toList] at this
        simp [this]
      refine ⟨?_, hend _ a w hall hI⟩
      cases hr : Region.ready .any ops listed with
      | nil => rfl
      | cons i r =>
        have hi : i ∈ Region.ready .any ops listed := by rw [hr]; simp
        obtain ⟨h1, oi, hoi, _⟩ := mem_ready.1 hi
        have h2 := hall i (Array.getElem?_eq_some_iff.1 hoi).1
        have h3 : i < listed.size := by rw [hs]; exact (Array.getElem?_eq_some_iff.1 hoi).1
        simp [h3] at h1 h2
        rw [h1] at h2; cases h2
    | succ fuel ih =>
      intro listed a w hs hc hI
      refine ⟨fun hr => hend _ a w (ready_nil ht hs hr) hI, fun i hi => ?_⟩
      obtain ⟨h1, oi, hoi, hall⟩ := mem_ready.1 hi
      have hil : i < listed.size := by rw [hs]; exact (Array.getElem?_eq_some_iff.1 hoi).1
      have hf : listed.toList[i]? = some false := by
        simp [hil] at h1
        simp [hil, h1]
      have hf' : listed.getD i false = false := by
        simp [hil] at h1
        simp [hil, h1]
      unfold wpOp
      simp only [hoi, wanted_plain (hpl i oi hoi), if_true]
      refine Or.inl (Oper.wp_mono ?_ (hstep i oi (fun j => listed.getD j false) a w hoi hf' (fun j haw => ?_) hI))
      · intro a' w' hI'
        refine ih (listed.setIfInBounds i true) a' w' (by simp [hs]) ?_ ?_
        · have := count_set hf
          rw [Array.toList_setIfInBounds]
          omega
        · have e : (fun j => (listed.setIfInBounds i true).getD j false) = fun j => j == i || listed.getD j false := by
            funext j
            by_cases hj : j = i
            · subst hj
              simp [hil]
            · rw [getD_set_ne false (Ne.symm hj)]
              simp [hj]
          rw [e]
          exact hI'
      · simp only [awaits, hoi] at haw
        obtain ⟨e, he, hb⟩ := Array.any_eq_true'.1 haw
        simp only [Bool.and_eq_true, beq_iff_eq] at hb
        have := hall e he hb.1
        rw [hb.2] at this
        exact this
  refine key _ _ _ _ (by simp) (by simp) ?_
  have e : (fun j => (Array.replicate ops.size false).getD j false) = fun _ => false := by
    funext j
    by_cases hj : j < ops.size <;> simp [hj]
  rw [e]
  exact h0

end
end Go.Proofs.YtanghehmfagmfaaGreatDoor

/-
  A region that draws its order, in which one operation turns memory (an append) and a later one stores what it gave: what is known ahead of the first, between the two, and behind the second. No program is named here.
-/
namespace Go.Proofs.YtanghehmfagmfaaGreatDoor
open Go.RowKit
set_option linter.unusedVariables false
set_option maxRecDepth 100000
set_option linter.unusedSimpArgs false

section
variable {P : Program} {ops : Array Oper} {Q : Exit → Act → World → Prop}

theorem laid_put (a : Act) (d : Option Tmp) (v : Value) (h : ∀ t, d = some t → t < a.tmps.size) : laidAt (a.put d v) d = keepIf d v := by
  cases hd : d with
  | none => rfl
  | some t =>
    show (a.put (some t) v).eval (.tmp t) = v
    rw [eval_put, if_pos ⟨rfl, h t hd⟩]
theorem laid_ne (a : Act) (d e : Option Tmp) (v : Value) (h : ∀ t, e = some t → d ≠ some t) : laidAt (a.put d v) e = laidAt a e := by
  cases he : e with
  | none => rfl
  | some t =>
    cases hd : d with
    | none => rfl
    | some s => exact eval_put_ne (fun e' => h t he (by rw [hd, e']))
theorem ex_v {p : Prop} (h : ∃ _ : World, p) : p := h.elim fun _ e => e

/-- An operation that only computes: from the facts that those it waits for have left, its own, in whatever world. -/
def StepV (P : Program) (Q : Exit → Act → World → Prop) (l : List (Option Tmp × Op)) (W : List (List Nat)) (F : List (Value → World → Prop)) (a0 : Act) (p i : Nat) : Prop :=
  ∀ (o : Oper), o.dst = (l.getD i noOp).1 → o.op = (l.getD i noOp).2 → ∀ a w, (∀ t, some t ∉ l.map (·.1) → a.eval (.tmp t) = a0.eval (.tmp t)) →
    (∀ j ∈ W.getD i [], j ≠ p → ∃ w', F.getD j (fun _ _ => True) (laidAt a (l.getD j noOp).1) w') →
    o.wp P a w (fun a' w' => ∃ v, a' = a.put o.dst v ∧ w = w' ∧ ∃ w'', F.getD i (fun _ _ => True) (keepIf o.dst v) w'') Q
theorem st_w {o : Oper} {a : Act} {w : World} {d : Tmp} {v : Value} {f : Value → World → Prop} (hd : o.dst = some d) (h : (execOp a.eval o).run P w = .ok (.value v) w) (hf : ∃ w'', f v w'') :
    o.wp P a w (fun a' w' => ∃ v, a' = a.put o.dst v ∧ w = w' ∧ ∃ w'', f (keepIf o.dst v) w'') Q := by
  unfold Oper.wp
  rw [h, hd]
  exact ⟨v, by rw [← hd], rfl, hf⟩

end
end Go.Proofs.YtanghehmfagmfaaGreatDoor

/-
  As Reg4's law: what makes or reads memory ahead of the one operation that turns it may be awaited by it at second hand. No program is named here.
-/
namespace Go.Proofs.YtanghehmfagmfaaGreatDoor
open Go.RowKit
set_option linter.unusedVariables false
set_option maxRecDepth 100000
set_option linter.unusedSimpArgs false

section
variable {P : Program} {ops : Array Oper} {Q : Exit → Act → World → Prop}

theorem wp_region_K2 {id m n p q : Nat} {a0 : Act} {w0 : World} (l : List (Option Tmp × Op)) (W : List (List Nat)) (F : List (Value → World → Prop)) (R0 : World → Prop) (R1 R2 : Value → World → Prop) (mk : List Nat) (hm : P.follows .mixedOrders = true) (hok : regOk ops m = true) (hk : kinds ops = l) (hL : waitsL ops = W) (hn : l.length = n) (hsz : a0.tmps.size = m)
    (hpq : p ∈ W.getD q []) (hne : p ≠ q) (hqp : q < n) (hpn : p < n) (hmk : ∀ i ∈ mk, ∀ L : Nat → Bool, (∀ i j, i < n → L i = true → j ∈ W.getD i [] → L j = true) → L p = true → L i = true) (hno : ∀ i, i < n → i ≠ p → i ≠ q → q ∉ W.getD i [])
    (hfree : ∀ i, i < n → i ∉ mk → ∀ v w w', F.getD i (fun _ _ => True) v w → F.getD i (fun _ _ => True) v w')
    (hR0 : R0 w0.drew) (hRG : ∀ w w', R0 w → Below w.heap.size w w' → R0 w') (hF : KeptAll F)
    (hstepV : ∀ i, i < n → i ≠ p → i ≠ q → i ∉ mk → StepV P Q l W F a0 p i)
    (hstepB : ∀ i, i ∈ mk → StepP P Q l W F R0 a0 i)
    (hstepP : ∀ (o : Oper), o.dst = (l.getD p noOp).1 → o.op = (l.getD p noOp).2 → ∀ a w, R0 w → (∀ t, some t ∉ l.map (·.1) → a.eval (.tmp t) = a0.eval (.tmp t)) →
      (∀ j ∈ W.getD p [], F.getD j (fun _ _ => True) (laidAt a (l.getD j noOp).1) w) → o.wp P a w (fun a' w' => ∃ v, a' = a.put o.dst v ∧ R1 (keepIf o.dst v) w') Q)
    (hstepQ : ∀ (o : Oper), o.dst = (l.getD q noOp).1 → o.op = (l.getD q noOp).2 → ∀ a w, R1 (laidAt a (l.getD p noOp).1) w → (∀ t, some t ∉ l.map (·.1) → a.eval (.tmp t) = a0.eval (.tmp t)) →
      (∀ j ∈ W.getD q [], j ≠ p → ∃ w', F.getD j (fun _ _ => True) (laidAt a (l.getD j noOp).1) w') → o.wp P a w (fun a' w' => ∃ v, a' = a.put o.dst v ∧ R2 (laidAt a (l.getD p noOp).1) w') Q)
    (hend : ∀ a w, a.tmps.size = m → a.defers = a0.defers → (∀ t, some t ∉ l.map (·.1) → a.eval (.tmp t) = a0.eval (.tmp t)) → R2 (laidAt a (l.getD p noOp).1) w → (∀ j, j < n → j ≠ p → j ≠ q → ∃ w', F.getD j (fun _ _ => True) (laidAt a (l.getD j noOp).1) w') → Q .normal a w) :
    (Code.region id ops true).wp P Q a0 w0 := by
  have hsize : ops.size = n := by
    have := congrArg List.length hk
    simp only [kinds, List.length_map, Array.length_toList] at this
    omega
  have hat : ∀ i (o : Oper), ops[i]? = some o → l.getD i noOp = (o.dst, o.op) ∧ i < n := fun i o ho => by
    have h1 : l[i]? = some (o.dst, o.op) := by
      rw [← hk]
      simp [kinds, ho]
    refine ⟨by rw [List.getD_eq_getElem?_getD, h1]; rfl, ?_⟩
    rw [← hn]
    exact (List.getElem?_eq_some_iff.1 h1).1
  have hall : ∀ (i : Nat), i < n → ∃ o : Oper, ops[i]? = some o ∧ l.getD i noOp = (o.dst, o.op) := fun i hi => by
    have hi' : i < ops.size := by omega
    exact ⟨ops[i], by simp [hi'], (hat i ops[i] (by simp [hi'])).1⟩
  have hWa : ∀ i j, j ∈ W.getD i [] → i < n → awaits .any ops i j = true ∧ j < n := fun i j hj hi => by
    rw [← hL, waitsL, List.getD_eq_getElem?_getD] at hj
    have hi2 : i < ops.size := by omega
    simp only [List.getElem?_map, List.getElem?_range hi2, Option.map_some, Option.getD_some, List.mem_filter, List.mem_range] at hj
    exact ⟨hj.2, by omega⟩
  have hds : ∀ (i : Nat) (o : Oper), ops[i]? = some o → o.dst ∈ l.map (·.1) := fun i o ho => by
    have h1 : l[i]? = some (o.dst, o.op) := by
      rw [← hk]
      simp [kinds, ho]
    exact List.mem_map.2 ⟨_, List.mem_of_getElem? h1, rfl⟩
  have hok' := hok
  unfold regOk at hok'
  simp only [Bool.and_eq_true] at hok'
  obtain ⟨⟨⟨hg, ht⟩, hnd⟩, hlt⟩ := hok'
  have hlt' : ∀ (i : Nat) (o : Oper) d, ops[i]? = some o → o.dst = some d → d < m := fun i o d ho hd => by
    have := Array.all_eq_true'.1 hlt o (Array.mem_of_getElem? ho)
    rw [hd] at this
    simpa using this
  have hdn : ∀ (i j : Nat) (oi oj : Oper), ops[i]? = some oi → ops[j]? = some oj → i ≠ j → ∀ t, oj.dst = some t → oi.dst ≠ some t := fun i j oi oj hi hj hij t hd he => by
    have h1 := List.all_eq_true.1 (List.all_eq_true.1 hnd i (List.mem_range.2 (Array.getElem?_eq_some_iff.1 hi).1)) j (List.mem_range.2 (Array.getElem?_eq_some_iff.1 hj).1)
    rw [hi, hj] at h1
    simp [hij, hd, he] at h1
  -- what laying a value leaves
  have hLN : ∀ (i j : Nat) (oi : Oper) (a : Act) v, ops[i]? = some oi → j < n → i ≠ j → laidAt (a.put oi.dst v) (l.getD j noOp).1 = laidAt a (l.getD j noOp).1 := fun i j oi a v hi hj hij => by
    obtain ⟨oj, hoj, ej⟩ := hall j hj
    rw [ej]
    exact laid_ne a _ _ v (fun t h => hdn i j oi oj hi hoj hij t h)
  have hLE : ∀ (i : Nat) (oi : Oper) (a : Act) v, ops[i]? = some oi → a.tmps.size = m → laidAt (a.put oi.dst v) (l.getD i noOp).1 = keepIf oi.dst v := fun i oi a v hi hs => by
    rw [(hat i oi hi).1]
    exact laid_put a _ v (fun t h => by rw [hs]; exact hlt' i oi t hi h)
  have hLO : ∀ (i : Nat) (oi : Oper) (a : Act) v, ops[i]? = some oi → (∀ t, some t ∉ l.map (·.1) → a.eval (.tmp t) = a0.eval (.tmp t)) → (∀ t, some t ∉ l.map (·.1) → (a.put oi.dst v).eval (.tmp t) = a0.eval (.tmp t)) := fun i oi a v hi hout t hto => by
    rw [← hout t hto]
    cases hd : oi.dst with
    | none => rfl
    | some d => exact eval_put_ne (fun e => hto (by rw [← e, ← hd]; exact hds i oi hi))
  refine wp_region_I (fun L a w => a.tmps.size = m ∧ a.defers = a0.defers ∧ (∀ t, some t ∉ l.map (·.1) → a.eval (.tmp t) = a0.eval (.tmp t)) ∧ (∀ i j, i < n → L i = true → j ∈ W.getD i [] → L j = true) ∧
    ((L p = false ∧ L q = false ∧ R0 w ∧ ∀ j, j < n → L j = true → F.getD j (fun _ _ => True) (laidAt a (l.getD j noOp).1) w) ∨
     (L p = true ∧ ((L q = false ∧ R1 (laidAt a (l.getD p noOp).1) w) ∨ (L q = true ∧ R2 (laidAt a (l.getD p noOp).1) w)) ∧ ∀ j, j < n → j ≠ p → j ≠ q → L j = true → ∃ w', F.getD j (fun _ _ => True) (laidAt a (l.getD j noOp).1) w'))) hm hok ?_ ?_ ?_
  · exact ⟨hsz, rfl, fun _ _ => rfl, fun _ _ _ h => absurd h (by simp), Or.inl ⟨rfl, rfl, hR0, fun _ _ h => absurd h (by simp)⟩⟩
  · rintro i o L a w ho hLi hawt ⟨hs, hd, hout, hcl, hph⟩
    obtain ⟨e1, hin⟩ := hat i o ho
    have e1d : o.dst = (l.getD i noOp).1 := by rw [e1]
    have e1o : o.op = (l.getD i noOp).2 := by rw [e1]
    have hcl' : ∀ i' j, i' < n → (i' == i || L i') = true → j ∈ W.getD i' [] → (j == i || L j) = true := fun i' j hi' h hj => by
      by_cases hii : i' = i
      · subst hii
        rw [hawt j (hWa i' j hj hi').1, Bool.or_true]
      · have h2 : L i' = true := by simpa [hii] using h
        rw [hcl i' j hi' h2 hj, Bool.or_true]
    have hpres : ∀ v j, j < n → j ≠ i → (j == i || L j) = true → L j = true ∧ laidAt (a.put o.dst v) (l.getD j noOp).1 = laidAt a (l.getD j noOp).1 := fun v j hj hji h =>
      ⟨by simpa [hji] using h, hLN i j o a v ho hj (Ne.symm hji)⟩
    rcases hph with ⟨hLp, hLq, hR, hFs⟩ | ⟨hLp, hph, hFs⟩
    · by_cases hip : i = p
      · subst hip
        refine Oper.wp_mono ?_ (hstepP o e1d e1o a w hR hout (fun j hj => hFs j (hWa i j hj hin).2 (hawt j (hWa i j hj hin).1)))
        rintro a' w' ⟨v, rfl, h1⟩
        refine ⟨by rw [size_put, hs], by rw [defers_put, hd], hLO i o a v ho hout, hcl', Or.inr ⟨by simp, Or.inl ⟨by simp [Ne.symm hne, hLq], by rw [hLE i o a v ho hs]; exact h1⟩, fun j hj h3 h4 h5 => ?_⟩⟩
        obtain ⟨h6, h7⟩ := hpres v j hj h3 h5
        rw [h7]
        exact ⟨w, hFs j hj h6⟩
      by_cases hiq : i = q
      · subst hiq
        have := hawt p (hWa i p hpq hin).1
        rw [hLp] at this; cases this
      by_cases him : i ∈ mk
      · refine Oper.wp_mono ?_ (hstepB i him o e1d e1o a w hR hout (fun j hj => hFs j (hWa i j hj hin).2 (hawt j (hWa i j hj hin).1)))
        rintro a' w' ⟨v, rfl, hb, h1⟩
        refine ⟨by rw [size_put, hs], by rw [defers_put, hd], hLO i o a v ho hout, hcl', Or.inl ⟨by simp [Ne.symm hip, hLp], by simp [Ne.symm hiq, hLq], hRG w w' hR hb, fun j hj h5 => ?_⟩⟩
        by_cases hji : j = i
        · subst hji
          rw [hLE j o a v ho hs]; exact h1
        · obtain ⟨h6, h7⟩ := hpres v j hj hji h5
          rw [h7]
          exact hF.at j _ w w' hb (hFs j hj h6)
      · refine Oper.wp_mono ?_ (hstepV i hin hip hiq him o e1d e1o a w hout (fun j hj _ => ⟨w, hFs j (hWa i j hj hin).2 (hawt j (hWa i j hj hin).1)⟩))
        rintro a' w' ⟨v, rfl, rfl, w'', h1⟩
        refine ⟨by rw [size_put, hs], by rw [defers_put, hd], hLO i o a v ho hout, hcl', Or.inl ⟨by simp [Ne.symm hip, hLp], by simp [Ne.symm hiq, hLq], hR, fun j hj h5 => ?_⟩⟩
        by_cases hji : j = i
        · subst hji
          rw [hLE j o a v ho hs]; exact hfree j hj him _ _ _ h1
        · obtain ⟨h6, h7⟩ := hpres v j hj hji h5
          rw [h7]
          exact hFs j hj h6
    · by_cases hip : i = p
      · subst hip
        rw [hLp] at hLi; cases hLi
      have him : i ∉ mk := fun h => by
        have := hmk i h _ hcl hLp
        rw [hLi] at this; cases this
      by_cases hiq : i = q
      · subst hiq
        rcases hph with ⟨_, h1⟩ | ⟨h, _⟩
        case inr => rw [hLi] at h; cases h
        refine Oper.wp_mono ?_ (hstepQ o e1d e1o a w h1 hout (fun j hj hjp => hFs j (hWa i j hj hin).2 hjp (fun e => by
          have := hawt j (hWa i j hj hin).1
          rw [e, hLi] at this; cases this) (hawt j (hWa i j hj hin).1)))
        rintro a' w' ⟨v, rfl, h2⟩
        refine ⟨by rw [size_put, hs], by rw [defers_put, hd], hLO i o a v ho hout, hcl', Or.inr ⟨by simp [hLp], Or.inr ⟨by simp, by rw [hLN i p o a v ho hpn (Ne.symm hne)]; exact h2⟩, fun j hj h3 h4 h5 => ?_⟩⟩
        obtain ⟨h6, h7⟩ := hpres v j hj h4 h5
        rw [h7]
        exact hFs j hj h3 h4 h6
      · have hn2 := hno i hin hip hiq
        refine Oper.wp_mono ?_ (hstepV i hin hip hiq him o e1d e1o a w hout (fun j hj hjp => hFs j (hWa i j hj hin).2 hjp (fun e => hn2 (e ▸ hj)) (hawt j (hWa i j hj hin).1)))
        rintro a' w' ⟨v, rfl, rfl, w'', h1⟩
        have hpp := hLN i p o a v ho hpn hip
        refine ⟨by rw [size_put, hs], by rw [defers_put, hd], hLO i o a v ho hout, hcl', Or.inr ⟨by simp [hLp], ?_, fun j hj h3 h4 h5 => ?_⟩⟩
        · rw [hpp]
          rcases hph with ⟨g1, g2⟩ | ⟨g1, g2⟩
          · exact Or.inl ⟨by simp [Ne.symm hiq, g1], g2⟩
          · exact Or.inr ⟨by simp [g1], g2⟩
        · by_cases hji : j = i
          · subst hji
            rw [hLE j o a v ho hs]; exact ⟨w'', h1⟩
          · obtain ⟨h6, h7⟩ := hpres v j hj hji h5
            rw [h7]
            exact hFs j hj h3 h4 h6
  · rintro L a w hall' ⟨hs, hd, hout, hcl, hph⟩
    have hL' : ∀ i, i < n → L i = true := fun i hi => hall' i (by omega)
    rcases hph with ⟨h, _⟩ | ⟨hLp, hph, hFs⟩
    · rw [hL' p hpn] at h; cases h
    · rcases hph with ⟨h, _⟩ | ⟨_, h2⟩
      · rw [hL' q hqp] at h; cases h
      · exact hend a w hs hd hout h2 (fun j hj h3 h4 => hFs j hj h3 h4 (hL' j hj))
theorem run_loadC' {a : Act} {o : Oper} {x : Operand} {t : TypeId} {p : Addr} {v : Value} {d : TypeDesc} (ho : o.op = .load t x) (hx : a.eval x = .pointer (some p)) (hu : P.underlying t = some d) (hd : d.isRow = false) (w : World) (hc : w.cell? p = some v) :
    (execOp a.eval o).run P w = .ok (.value v) w := by
  have hrun : (Instr.loadAt t (.pointer (some p))).run P w = .ok v w := by
    have hagg : (isAgg t).run P w = .ok false w := by
      unfold isAgg
      rw [Sem.run_bind, run_underlying hu w]
      cases d <;> first | rfl | (simp [TypeDesc.isRow] at hd)
    simp [go_sem, hagg, hc]
  unfold execOp
  simp only [ho, hx, Sem.run_bind, hrun]
  rfl
theorem act_extC {a b : Act} (hs : a.tmps.size = b.tmps.size) (hd : a.defers = b.defers) (h : ∀ t : Nat, a.eval (.tmp t) = b.eval (.tmp t)) : a = b := by
  obtain ⟨ta, da⟩ := a
  obtain ⟨tb, db⟩ := b
  simp only at hd hs
  subst hd
  congr 1
  apply Array.ext hs
  intro i h1 h2
  have := h i
  simpa [Act.eval, h1, h2] using this
/-- A frame out of another one, by the slots in which they may part. -/
theorem act_putsC (a : Act) : ∀ (b : Act) (ds : List Nat), a.tmps.size = b.tmps.size → a.defers = b.defers → (∀ d ∈ ds, d < a.tmps.size) → (∀ t : Nat, t ∉ ds → a.eval (.tmp t) = b.eval (.tmp t)) → a = ds.foldl (fun c d => c.put (some d) (a.eval (.tmp d))) b
  | b, [], hs, hd, _, h => act_extC hs hd (fun t => h t (by simp))
  | b, d :: ds, hs, hd, hl, h => by
    refine act_putsC a (b.put (some d) (a.eval (.tmp d))) ds (by rw [size_put, hs]) (by rw [defers_put, hd]) (fun x hx => hl x (by simp [hx])) (fun t ht => ?_)
    by_cases hdt : t = d
    · subst hdt
      rw [eval_put, if_pos ⟨rfl, by rw [← hs]; exact hl t (by simp)⟩]
    · rw [eval_put_ne (fun e => hdt e.symm)]
      exact h t (by simp [hdt, ht])
theorem wp_storeC' {o : Oper} {a : Act} {w : World} {K : Act → World → Prop} {Q : Exit → Act → World → Prop} {t : TypeId} {x y : Operand} {p : Addr} {v : Value} {q : Option Addr} {n c : Nat} (ho : o.op = .store t x y) (hd : o.dst = none) (hx : a.eval x = .pointer (some p)) (hy : a.eval y = .slice q n c)
    (hz : (P.info? t).map (·.size) = some 1) (hc : w.cell? p = some v) (hf : w.frozen? p = false) (h : K a (w.setCell p (.slice q n c))) : o.wp P a w K Q := by
  have hrun : (Instr.storeAt t (.pointer (some p)) (.slice q n c)).run P w = .ok () (w.setCell p (.slice q n c)) := by
    have hz' : (sizeOf t).run P w = .ok 1 w := by
      cases hi : P.info? t with
      | none => simp [hi] at hz
      | some i => simp [hi] at hz; simp [sizeOf, typeInfo, hi, hz]
    simp [go_sem, hz', hc, hf]
  unfold Oper.wp execOp
  simp only [ho, hx, hy, Sem.run_bind, hrun]
  simp only [Result.andThen_ok, Sem.run_pure, Oper.upon, hd, Act.put]
  exact h
theorem addr_addC (g o j : Nat) : (⟨g, o, none⟩ : Addr).add j = ⟨g, o + j, none⟩ := by
  unfold Addr.add
  split
  · rename_i h; subst h; rfl
  · rfl
theorem run_sliceL' {a : Act} {o : Oper} {x y : Operand} {t : TypeId} {v u r : Value} (ho : o.op = .slice t x none (some y) none) (hx : a.eval x = v) (hy : a.eval y = u) (hu : P.underlying t = some (.slice (P.elem t))) {w : World} (h : (Instr.slice t v none (some u) none).run P w = .ok r w) : (execOp a.eval o).run P w = .ok (.value r) w := by
  unfold execOp
  simp only [ho, Option.map_none, Option.map_some, hx, hy, Sem.run_bind, run_sliceAt_slice w t v _ _ _ hu, h]
  rfl
theorem run_sliceR' {a : Act} {o : Oper} {x y : Operand} {t : TypeId} {v u r : Value} (ho : o.op = .slice t x (some y) none none) (hx : a.eval x = v) (hy : a.eval y = u) (hu : P.underlying t = some (.slice (P.elem t))) {w : World} (h : (Instr.slice t v (some u) none none).run P w = .ok r w) : (execOp a.eval o).run P w = .ok (.value r) w := by
  unfold execOp
  simp only [ho, Option.map_none, Option.map_some, hx, hy, Sem.run_bind, run_sliceAt_slice w t v _ _ _ hu, h]
  rfl
end
end Go.Proofs.YtanghehmfagmfaaGreatDoor
