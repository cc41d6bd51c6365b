/-
  Parts of this proof, one behind the other: Cha6.
-/
import Derived.Test.YtanghehmfagmfaaGreatDoorBun13

/-
  The contract of package stream's Block.
-/
namespace Go.Proofs.YtanghehmfagmfaaGreatDoor
open Go.RowKit
set_option linter.unusedVariables false
set_option maxRecDepth 100000

theorem RowIs.setAll {w : World} {g : Nat} {t : TypeId} {l vs : List Value} (h : RowIs w g t l) (hv : vs.length = l.length) : RowIs (w.setCells g 0 vs) g t vs := by
  have := h.sets vs 0 (by omega)
  have e : putAt l 0 vs = vs := by unfold putAt; rw [List.take_zero, List.nil_append, Nat.zero_add, List.drop_of_length_le (by omega), List.append_nil]
  rwa [e] at this
theorem fixedRow_len (l : List Int) (h : l.length = 16) : (cells32 l).length = 16 := by rw [cells32_len, h]
theorem z16_row : (cells32 z16).length = 16 := by rw [cells32_len, z16_len]

theorem ret_sb1 {a b : ByteArray} {c : Bool} (h : a = b) : Ending.returned (.tuple #[.string a, .bool c]) = .returned (.tuple #[.string b, .bool c]) := by rw [h]

set_option maxRecDepth 100000 in
set_option maxHeartbeats 2000000 in
theorem stream_block_yes (key : ByteArray) (c : Int) (nonce : ByteArray) (w : World) (hk : key.size = 32) (hn : nonce.size = 12) (hc : W32 c) :
    Calls Tryz.prog 135 #[.string key, .int .u32 c, .string nonce] w fun e w' => e = .returned (.tuple #[.string (blockS key c nonce), .bool true]) ∧ Below w.heap.size w w' := by
  have hfit : decide (key.size = 32 ∧ nonce.size = 12) = true := by simp [hk, hn]
  have hA := stream_areFit key nonce w
  rw [hfit] at hA
  have hF := stream_firstState key c nonce w hk hn hc
  obtain ⟨i0, hi, hz0, hz1, hz2⟩ := info_parts info8
  have HBK : Hid (blockS key c nonce = str (tellTo (dbls (firstL key c nonce) 10) (firstL key c nonce) 16)) := rfl
  have hfl := firstL_len key c nonce
  have hfw := firstL_w key c nonce hc
  obtain ⟨f, hf⟩ : ∃ f, f = firstL key c nonce := ⟨_, rfl⟩
  rw [← hf] at hF HBK hfl hfw
  clear hf
  have HD : Hid (∀ (g : Nat) (s : List Int) (w : World), s.length = 16 → allW s → RowIs w g 214 (cells32 s) → Calls Tryz.prog 171 #[.pointer (some ⟨g, 0, none⟩)] w fun e w' => e = .returned (.tuple #[]) ∧ RowIs w' g 214 (cells32 (dblTo s 8)) ∧ Upon g w w') := stream_doubleRound
  have hone := all_oneCell_toArray (cells32_one f)
  have hcl := fixedRow_len f hfl
  go_enter Tryz.func135, Tryz.ntmps135
  go_wp2_with (first | (go_at_call 133; refine hA.mono ?_; rintro e w' ⟨rfl, rfl⟩))
  refine hF.mono ?_
  rintro e w1 ⟨rfl, b1⟩
  have HCS : Hid (∃ cs, cells32 f = cs) := ⟨_, rfl⟩
  obtain ⟨cs, hcs⟩ := HCS.out
  rw [hcs] at hone hcl ⊢
  have HE : Hid (cells32 f = cs) := hcs
  clear hcs HCS
  go_wp2_with (first
    | (refine wpList_allocN rfl rfl run_alloc16 w1.heap.size rfl ?_; have p1 := RowIs.new w1 214 (cells32 z16); have p2 : Below w.heap.size w (w1.alloc (.cells (cells32 z16).toArray 214)) := b1.alloc b1.size _; generalize w1.alloc (.cells (cells32 z16).toArray 214) = wa at *)
    | (refine wpList_store_mid rfl 214 _ _ rfl w1.heap.size 0 cs.toArray rfl rfl (p1.there (by rw [z16_row]; simp [hcl])) (by rw [size16]; simp [hcl]) hone ?_; generalize hx : World.setCells _ _ _ _ = wb; have p4 : RowIs wb w1.heap.size 214 cs := hx ▸ p1.setAll (by rw [hcl, z16_row]); have p5 : Below w.heap.size w wb := hx ▸ bel_setCells p2 b1.size 0 cs; clear hx p1 p2)
    | (refine wpList_load_mid rfl 214 _ rfl w1.heap.size 0 rfl cs _ (p4.range (by rw [List.drop_zero, List.take_length])) Tryz.underlying214 rfl (by rw [size16, hcl]) ?_)
    | (refine wpList_allocN rfl rfl run_alloc16 wb.heap.size rfl ?_; have p6 := RowIs.new wb 214 (cells32 z16); have p7 : RowIs (wb.alloc (.cells (cells32 z16).toArray 214)) w1.heap.size 214 cs := p4.alloc _; have p8 : Below w.heap.size w (wb.alloc (.cells (cells32 z16).toArray 214)) := p5.alloc p5.size _; have p9 := p4.lt; have pa := p5.size; clear p4 p5; generalize wb.alloc (.cells (cells32 z16).toArray 214) = wc at *)
    | (refine wpList_store_mid rfl 214 _ _ rfl wb.heap.size 0 cs.toArray rfl rfl (p6.there (by rw [z16_row]; simp [hcl])) (by rw [size16]; simp [hcl]) hone ?_; generalize hx : World.setCells _ _ _ _ = wd; have pb : RowIs wd wb.heap.size 214 cs := hx ▸ p6.setAll (by rw [hcl, z16_row]); have pc : RowIs wd w1.heap.size 214 cs := (hx ▸ (Upon.refl wb.heap.size _).setCells 0 cs : Upon wb.heap.size _ wd).row p7 (by omega); have pd : Below w.heap.size w wd := hx ▸ bel_setCells p8 pa 0 cs; clear hx p6 p7 p8))
  rw [← HE.out] at pb pc
  go_loopw [22] (fun i wr => ∃ k : Nat, k ≤ 10 ∧ i = .int .i64 k ∧ RowIs wr w1.heap.size 214 (cells32 f) ∧ RowIs wr wb.heap.size 214 (cells32 (dbls f k)) ∧ Below w.heap.size w wr) (fun i _ => 10 - (intOf i).toNat)
  case atStart => exact ⟨0, by omega, rfl, pc, pb, pd⟩
  case round =>
    clear pc pb pd
    obtain ⟨k, hk10, rfl, ra, rb, rd⟩ := hrel
    by_cases hlt : k < 10
    · have hd := HD.out wb.heap.size (dbls f k) wr (by rw [dbls_len, hfl]) (dbls_w hfw k) rb
      go_wp2_with (first | (go_at_call 171; refine hd.mono ?_; rintro e w' ⟨rfl, rc, ru⟩))
      go_roundw
      case rel => exact ⟨k + 1, by omega, by go_num, ru.row ra (by omega), rc, rd.trans (ru.below pa rd.size)⟩
      case measure => simp [intOf]; omega
    · have hk10' : k = 10 := by omega
      subst hk10'
      obtain ⟨w4, hw4⟩ : ∃ w4, w4 = wr := ⟨_, rfl⟩
      subst hw4
      have hdl : (dbls f 10).length = 16 := by rw [dbls_len, hfl]
      have hdc := fixedRow_len (dbls f 10) hdl
      have hdw := dbls_w hfw 10
      have HT : ∀ k, Hid (tellTo (dbls f 10) f (k + 1) = tellTo (dbls f 10) f k ++ putLittle (((dbls f 10).getD k 0 + f.getD k 0) % 4294967296) 4) := fun k => tellTo_succ _ _ k
      have HT0 : Hid (tellTo (dbls f 10) f 0 = []) := rfl
      have HIX : Hid (∀ j : Nat, j < 16 → ∀ w : World, (Instr.index 214 (.agg (cells32 (dbls f 10)).toArray) (.int .i64 (j : Int))).run Tryz.prog w = .ok (.int .u32 ((dbls f 10).getD j 0)) w) := by
        intro j hj w
        exact run_index_arr _ _ j _ w rfl hj (by rw [List.getElem?_toArray]; exact cells32_at _ j (by omega)) Tryz.underlying214 Tryz.underlying73 cells30
      have ra1 : RowIs (w4.alloc (.cells (cells8 (zeros8 64)).toArray 5)) wb.heap.size 214 (cells32 (dbls f 10)) := rb.alloc _
      have hown0 : (w4.alloc (.cells (cells8 (zeros8 64)).toArray 5)).ownsRow w4.heap.size 5 1 (.slice (some ⟨w4.heap.size, 0, none⟩) 0 64) (4 * 0) (cells8 (tellTo (dbls f 10) f 0)) := (RowIs.new w4 5 (cells8 (zeros8 64))).owns (Nat.le_refl _) (by rw [cells8_len]; rfl) (by omega) (by unfold maxLen; omega)
      have hb0 : Below w4.heap.size w4 (w4.alloc (.cells (cells8 (zeros8 64)).toArray 5)) := (Below.refl w4.heap.size w4).alloc (Nat.le_refl _) _
      have hML := ra.lt
      have HRA : Hid (RowIs w4 w1.heap.size 214 (cells32 f)) := ra
      have HRD : Hid (Below w.heap.size w w4) := rd
      clear ra rb rd HD hk10
      generalize dbls f 10 = d at *
      go_wp2_with (first | (at_make; refine wpList_make8 rfl _ _ rfl _ _ 0 64 rfl rfl rfl rfl (by omega) (by omega) w4.heap.size rfl ?_) | (refine wpList_load_mid rfl 214 _ rfl wb.heap.size 0 rfl (cells32 d) _ (ra1.range (by rw [List.drop_zero, List.take_length])) Tryz.underlying214 rfl (by rw [size16, hdc]) ?_))
      clear ra1
      generalize w4.alloc (.cells (cells8 (zeros8 64)).toArray 5) = wm at *
      go_loopw [10, 28] (fun v i wr => ∃ k : Nat, k ≤ 16 ∧ i = .int .i64 k ∧ wr.ownsRow w4.heap.size 5 1 v (4 * k) (cells8 (tellTo d f k)) ∧ Below w4.heap.size w4 wr) (fun _ i _ => 16 - (intOf i).toNat)
      case atStart => exact ⟨0, by omega, rfl, hown0, hb0⟩
      case round =>
        have hws : w4.heap.size ≤ w4.heap.size := Nat.le_refl _
        clear hown0 hb0
        obtain ⟨k, hk, rfl, hown, hbel⟩ := hrel
        by_cases hlt : k < 16
        · have hix := HIX.out k hlt
          have hcell : wr.cell? ⟨w1.heap.size, k, none⟩ = some (.int .u32 (f.getD k 0)) := (HRA.out.below hbel hML).cellAt (cells32_at f k (by omega))
          have hwd := getD_w' hdw k
          have hwf := getD_w' hfw k
          have hwd0 := hwd.1
          have hwd1 := hwd.2
          have hwf0 := hwf.1
          have hwf1 := hwf.2
          have HTk := HT k
          clear hwd hwf
          generalize d.getD k 0 = x at *
          generalize f.getD k 0 = y at *
          have hsz : ∀ v, (putLittleS v 4).size = 4 := fun v => by unfold putLittleS; rw [str_size, putLittle4_len]
          go_wp2_with (first | (go_at_call 172; refine (octet_putLittle _ _ _ (by omega) (by omega)).mono ?_; rintro e w2 ⟨rfl, hb2⟩) | (at_builtin; refine Lib.wpList_append_own_string (P := Tryz.prog) _ rfl _ _ 51 9 rfl w4.heap.size 5 i0 Tryz.underlying51 Tryz.underlying9 hi hz0 hz1 hz2 _ (4 * k) (cells8 (tellTo d f k)) rfl (owns_below hown hb2) (putLittleS ((x + y) % 4294967296) 4) rfl (by rw [hsz]; unfold maxLen; omega) (by rw [hsz]; omega) (Nat.le_trans (Nat.le_trans hws hbel.size) hb2.size) ?_; intro v' w3 hown3 hgrow3 hiff))
          have hbel3 : Below w4.heap.size w4 w3 := (hbel.trans (hb2.mono (Nat.le_trans hws hbel.size))).grown hgrow3 (Nat.le_trans (Nat.le_trans hws hbel.size) hb2.size) (owns_block hown)
          rw [hsz, show putLittleS ((x + y) % 4294967296) 4 = str (putLittle ((x + y) % 4294967296) 4) from rfl, strCells_str, ← cells8_append] at hown3
          go_roundw
          case rel => exact ⟨k + 1, by omega, by go_num, by rw [HTk.out]; exact hown3, hbel3⟩
          case measure => simp [intOf]; omega
        · have hk8 : k = 16 := by omega
          rw [hk8] at hown
          have hconv := own_string_any hown
          clear hown
          go_wp2
          go_ret2
          exact ⟨ret_sb1 HBK.out.symm, HRD.out.trans (hbel.mono HRD.out.size)⟩

end Go.Proofs.YtanghehmfagmfaaGreatDoor
