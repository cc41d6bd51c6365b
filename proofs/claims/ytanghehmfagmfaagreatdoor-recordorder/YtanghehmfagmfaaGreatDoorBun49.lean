/-
  Parts of this proof, one behind the other: Box1, Box2.
-/
import Derived.Test.YtanghehmfagmfaaGreatDoorBun28
import Derived.Test.YtanghehmfagmfaaGreatDoorBun31
import Derived.Test.YtanghehmfagmfaaGreatDoorBun5
import Derived.Test.YtanghehmfagmfaaGreatDoorBun25
import Derived.Deep.RegionHeld3
import Derived.RegionTactic

/-
  The contracts of package box's differ and writeFilled.
-/
namespace Go.Proofs.YtanghehmfagmfaaGreatDoor
open Go.RowKit
set_option linter.unusedVariables false
set_option maxRecDepth 100000
set_option linter.unusedSimpArgs false

theorem u32_load (a : Addr) (x : Int) (w : World) (hc : w.cell? a = some (.int .u32 x)) :
    Calls Tryz.prog 151 #[.pointer (some a)] w fun e w' => e = .returned (.int .u32 x) ∧ w = w' := by
  have hl := run_call_load (P := Tryz.prog) Tryz.func181 (by kernel_rfl) (by kernel_rfl) (by kernel_rfl) .u32 (by kernel_rfl) hc
  go_enter Tryz.func151, Tryz.ntmps151
  go_wp2
  go_ret
  exact ⟨rfl, rfl⟩

set_option maxHeartbeats 400000 in
/-- Do two tags differ? -/
theorem box_differ (a b : ByteArray) (w : World) (ha : a.size ≤ 17592186044416) (hb : b.size ≤ 17592186044416) :
    Calls Tryz.prog 106 #[.string a, .string b] w fun e w' => e = .returned (.bool (decide (a ≠ b))) ∧ Below w.heap.size w w' := by
  have hS := fun w => mac_same a b w ha hb
  by_cases hab : a = b
  · rw [show decide (a ≠ b) = false from decide_eq_false (fun h => h hab)]
    rw [decide_eq_true hab] at hS
    clear hab
    go_enter Tryz.func106, Tryz.ntmps106
    go_wp2_with fail
    have r0 : RowIs (w.alloc (.cells #[.int .u32 0] 185)) w.heap.size 185 [.int .u32 0] := RowIs.new w _ _
    have b0 : Below w.heap.size w (w.alloc (.cells #[.int .u32 0] 185)) := (Below.refl _ _).alloc (Nat.le_refl _) _
    generalize w.alloc (.cells #[.int .u32 0] 185) = w1 at *
    refine (hS _).mono ?_
    rintro e w2 ⟨rfl, b2⟩
    have r2 := r0.below b2 r0.lt
    have e2 := bel_chain' b0 b2
    go_wp2_with fail
    refine (u32_load ⟨w.heap.size, 0, none⟩ 0 w2 (r2.cellAt rfl)).mono ?_
    rintro e w' ⟨rfl, rfl⟩
    go_wp2
    go_ret
    exact ⟨rfl, e2⟩
  · rw [show decide (a ≠ b) = true from decide_eq_true hab]
    rw [decide_eq_false hab] at hS
    clear hab
    go_enter Tryz.func106, Tryz.ntmps106
    go_wp2_with fail
    have r0 : RowIs (w.alloc (.cells #[.int .u32 0] 185)) w.heap.size 185 [.int .u32 0] := RowIs.new w _ _
    have b0 : Below w.heap.size w (w.alloc (.cells #[.int .u32 0] 185)) := (Below.refl _ _).alloc (Nat.le_refl _) _
    generalize w.alloc (.cells #[.int .u32 0] 185) = w1 at *
    refine (hS _).mono ?_
    rintro e w2 ⟨rfl, b2⟩
    have r2 := r0.below b2 r0.lt
    have e2 := bel_chain' b0 b2
    go_wp2_with fail
    refine (u32_add ⟨w.heap.size, 0, none⟩ 0 1 w2 (r2.cellAt rfl) (r2.frozen 0)).mono ?_
    rintro e w' ⟨rfl, rfl⟩
    rw [show addI 0 1 = 1 from rfl]
    have r3 : RowIs (w2.setCell ⟨w.heap.size, 0, none⟩ (.int .u32 1)) w.heap.size 185 [.int .u32 1] := r2.set 0 _
    have e3 : Below w.heap.size w (w2.setCell ⟨w.heap.size, 0, none⟩ (.int .u32 1)) := e2.setCell (Nat.le_refl _) _
    generalize w2.setCell ⟨w.heap.size, 0, none⟩ (.int .u32 1) = w3 at *
    go_wp2_with fail
    refine (u32_load ⟨w.heap.size, 0, none⟩ 1 w3 (r3.cellAt rfl)).mono ?_
    rintro e w' ⟨rfl, rfl⟩
    go_wp2
    go_ret
    exact ⟨rfl, e3⟩

theorem fill_more (n k : Nat) (hk : k ≤ fillZ n) : (((n + k : Nat) : Int) % 16 = 0) ↔ k = fillZ n := by
  unfold fillZ at *
  omega

set_option maxHeartbeats 1000000 in
theorem box_writeFilled (B b : Nat) (l : List UInt8) (s : ByteArray) (w : World) (h : Lib.IsBuilder 177 5 B b (cells8 l) w) (hl : l.length + s.size ≤ 140737488000000) (hBw : B ≤ w.heap.size) :
    Calls Tryz.prog 180 #[.pointer (some ⟨b, 0, none⟩), .string s] w fun e w' => e = .returned (.tuple #[]) ∧ Lib.BuilderAt 177 5 B b (.pointer (some ⟨b, 0, none⟩)) (cells8 (l ++ fullL s.data.toList)) w' ∧ Below B w w' := by
  have hcl := cells8_len l
  go_enter Tryz.func180, Tryz.ntmps180
  go_wp2_with fail
  refine (Tryz.Builder_WriteString B b _ s w h (by omega) hBw).mono ?_
  rintro e w1 ⟨rfl, d1, b1⟩
  have d0 : Lib.BuilderAt 177 5 B b (.pointer (some ⟨b, 0, none⟩)) (cells8 (l ++ s.data.toList ++ List.replicate 0 0)) w1 := by
    rw [← str_back s, strCells_str, ← cells8_append] at d1
    rw [List.replicate_zero, List.append_nil]
    rw [← str_back s]
    simpa [str] using d1
  have hz := fillZ_lt s.size
  have hsl : s.data.toList.length = s.size := by simp
  clear d1 h
  go_wp2_with fail
  go_loopw [4] (fun v wr => ∃ k : Nat, k ≤ fillZ s.size ∧ v = .int .i64 ((s.size + k : Nat) : Int) ∧ Lib.BuilderAt 177 5 B b (.pointer (some ⟨b, 0, none⟩)) (cells8 (l ++ s.data.toList ++ List.replicate k 0)) wr ∧ Below B w wr ∧ B ≤ wr.heap.size) (fun v _ => s.size + 16 - (intOf v).toNat)
  case atStart => exact ⟨0, Nat.zero_le _, rfl, d0, b1, Nat.le_trans hBw b1.size⟩
  case round =>
    clear d0 b1 hBw
    obtain ⟨k, hk, rfl, rb, rd, rs⟩ := hrel
    have hm := fill_more s.size k hk
    by_cases hkz : k = fillZ s.size
    · have ht : ((((s.size + k : Nat) : Int) % 16) != 0) = false := by rw [hm.2 hkz]; rfl
      have HF : Hid (fullL s.data.toList = s.data.toList ++ List.replicate k 0) := by show fullL _ = _; unfold fullL; rw [hsl, ← hkz]
      clear hm
      generalize s.size + k = n at *
      go_wp2
      go_end0
      exact ⟨rfl, by rw [HF.out, ← List.append_assoc]; exact rb, rd⟩
    · have ht : ((((s.size + k : Nat) : Int) % 16) != 0) = true := by rw [bne_iff_ne]; exact fun e => hkz (hm.1 e)
      clear hm
      have hn : s.size + k < 140737488355328 := by omega
      obtain ⟨n, hnn⟩ : ∃ n, n = s.size + k := ⟨_, rfl⟩
      rw [← hnn] at ht hn ⊢
      have HN : Hid (n = s.size + k) := hnn
      clear hnn
      go_wp2_with fail
      refine (Tryz.Builder_WriteByte B b _ 0 wr (Or.inr rb) (by rw [cells8_len]; simp; omega) rs).mono ?_
      rintro e w3 ⟨rfl, d3, b3⟩
      go_wp2
      go_roundw
      case rel =>
        refine ⟨k + 1, by omega, ?_, ?_, rd.trans b3, Nat.le_trans rs b3.size⟩
        · rw [HN.out]; go_num
        · rw [List.replicate_succ', ← List.append_assoc, cells8_append]
          exact d3
      case measure => simp only [intOf]; have := HN.out; omega

end Go.Proofs.YtanghehmfagmfaaGreatDoor

/-
  The contracts of package box's tagged, tagOf, Seal and Open.
-/
namespace Go.Proofs.YtanghehmfagmfaaGreatDoor
open Go.RowKit
set_option linter.unusedVariables false
set_option maxRecDepth 100000
set_option linter.unusedSimpArgs false

theorem putLittleS8_size (v : Int) : (putLittleS v 8).size = 8 := by rw [putLittleS, str_size, putLittle8_len]

set_option maxHeartbeats 1000000 in
theorem box_tagged (c more : ByteArray) (w : World) (hc : c.size ≤ 1000000) (hm : more.size ≤ 1000000) :
    Calls Tryz.prog 139 #[.string c, .string more] w fun e w' => e = .returned (.string (str (boxL more.data.toList c.data.toList))) ∧ Below w.heap.size w w' := by
  have HB : Hid (boxL more.data.toList c.data.toList = ((([] ++ fullL more.data.toList) ++ fullL c.data.toList) ++ putLittle (more.size : Int) 8) ++ putLittle (c.size : Int) 8) := by
    show _ = _
    unfold boxL
    simp
  have z1 := fillZ_lt more.size
  have z2 := fillZ_lt c.size
  have l1 : ([] ++ fullL more.data.toList).length = more.size + fillZ more.size := by rw [List.nil_append, fullL_len]; simp
  have l2 : (([] ++ fullL more.data.toList) ++ fullL c.data.toList).length = more.size + fillZ more.size + (c.size + fillZ c.size) := by rw [List.length_append, l1, fullL_len]; simp
  have l3 : ((([] ++ fullL more.data.toList) ++ fullL c.data.toList) ++ putLittle (more.size : Int) 8).length = more.size + fillZ more.size + (c.size + fillZ c.size) + 8 := by rw [List.length_append, l2, putLittle8_len]
  generalize boxL more.data.toList c.data.toList = F at *
  go_enter Tryz.func139, Tryz.ntmps139
  go_wp2_with fail
  have b2 : Below w.heap.size w (w.alloc (.cells #[.pointer none, .slice none 0 0] 177)) := (Below.refl _ _).alloc (Nat.le_refl _) _
  have hbk : (w.alloc (.cells #[.pointer none, .slice none 0 0] 177)).heap[w.heap.size]? = some (.cells #[.pointer none, .slice none 0 0] 177 (0, 0)) := RowIs.new w _ [.pointer none, .slice none 0 0]
  have hsz : w.heap.size ≤ (w.alloc (.cells #[.pointer none, .slice none 0 0] 177)).heap.size := by simp
  generalize w.alloc (.cells #[.pointer none, .slice none 0 0] 177) = w3 at *
  have gr := Tryz.Builder_Grow_fresh w.heap.size w.heap.size (more.size + c.size + 32 + 16) w3 (Nat.le_refl _) hbk hsz (by omega)
  rw [show ((more.size + c.size + 32 + 16 : Nat) : Int) = (more.size : Int) + c.size + 32 + 16 from by omega] at gr
  refine gr.mono ?_
  clear gr
  rintro e w4 ⟨rfl, d4, b4⟩
  have e4 : Below w.heap.size w w4 := b2.trans b4
  have s4 : w.heap.size ≤ w4.heap.size := Nat.le_trans hsz b4.size
  clear b2 hbk hsz b4
  obtain ⟨N, hN⟩ : ∃ N, w.heap.size = N := ⟨_, rfl⟩
  rw [hN] at d4 e4 s4 ⊢
  have HN : Hid (w.heap.size = N) := hN
  clear hN
  go_wp2_with fail
  refine (box_writeFilled N N [] more w4 (Or.inr d4) (by simp; omega) s4).mono ?_
  rintro e w5 ⟨rfl, d5, b5⟩
  replace e4 := e4.trans b5
  replace s4 := Nat.le_trans s4 b5.size
  clear b5 d4
  generalize [] ++ fullL more.data.toList = A1 at *
  go_wp2_with fail
  refine (box_writeFilled N N A1 c w5 (Or.inr d5) (by omega) s4).mono ?_
  rintro e w6 ⟨rfl, d6, b6⟩
  replace e4 := e4.trans b6
  replace s4 := Nat.le_trans s4 b6.size
  clear b6 d5
  generalize A1 ++ fullL c.data.toList = A2 at *
  have u1 : IntKind.u64.wrap (more.size : Int) = more.size := by rw [IntKind.wrap_u64]; omega
  have u2 : IntKind.u64.wrap (c.size : Int) = c.size := by rw [IntKind.wrap_u64]; omega
  go_wp2_with fail
  refine (octet_putLittle_yes (more.size : Int) 8 w6 (by omega) (by omega) (by decide) (by decide)).mono ?_
  rintro e w7 ⟨rfl, b7⟩
  have d7 := builder_kept d6 b7
  replace e4 := e4.trans (b7.mono s4)
  replace s4 := Nat.le_trans s4 b7.size
  clear b7 d6
  go_wp2_with fail
  refine (Tryz.Builder_WriteString N N _ _ w7 (Or.inr d7) (by rw [cells8_len, putLittleS8_size]; omega) s4).mono ?_
  rintro e w8 ⟨rfl, d8, b8⟩
  rw [show putLittleS (more.size : Int) 8 = str (putLittle (more.size : Int) 8) from rfl, strCells_str, ← cells8_append] at d8
  replace e4 := e4.trans b8
  replace s4 := Nat.le_trans s4 b8.size
  clear b8 d7
  generalize A2 ++ putLittle (more.size : Int) 8 = A3 at *
  go_wp2_with fail
  refine (octet_putLittle_yes (c.size : Int) 8 w8 (by omega) (by omega) (by decide) (by decide)).mono ?_
  rintro e w9 ⟨rfl, b9⟩
  have d9 := builder_kept d8 b9
  replace e4 := e4.trans (b9.mono s4)
  replace s4 := Nat.le_trans s4 b9.size
  clear b9 d8
  go_wp2_with fail
  refine (Tryz.Builder_WriteString N N _ _ w9 (Or.inr d9) (by rw [cells8_len, putLittleS8_size]; omega) s4).mono ?_
  rintro e w10 ⟨rfl, d10, b10⟩
  rw [show putLittleS (c.size : Int) 8 = str (putLittle (c.size : Int) 8) from rfl, strCells_str, ← cells8_append] at d10
  replace e4 := e4.trans b10
  replace s4 := Nat.le_trans s4 b10.size
  clear b10 d9
  generalize A3 ++ putLittle (c.size : Int) 8 = A4 at *
  go_wp2_with fail
  refine (Tryz.Builder_String_any N N A4 w10 (Or.inr d10) s4).mono ?_
  rintro e w11 ⟨rfl, b11⟩
  go_wp2
  go_ret
  exact ⟨ret_str (by rw [HB.out]; rfl), by rw [HN.out]; exact e4.trans b11⟩

theorem box_tagOf_yes (key nonce c more : ByteArray) (w : World) (hk : key.size = 32) (hn : nonce.size = 12) (hc : c.size ≤ 1000000) (hm : more.size ≤ 1000000) :
    Calls Tryz.prog 90 #[.string key, .string nonce, .string c, .string more] w fun e w' => e = .returned (.tuple #[.string (boxTag key nonce more c), .bool true]) ∧ Below w.heap.size w w' := by
  have hbz := blockS_size key 0 nonce
  have hex : ((blockS key 0 nonce).extract 0 32).size = 32 := by simp [hbz]
  have HT : Hid (∀ w, Calls Tryz.prog 138 #[.string ((blockS key 0 nonce).extract 0 32), .string (str (boxL more.data.toList c.data.toList))] w fun e w' => e = .returned (.tuple #[.string (boxTag key nonce more c), .bool true]) ∧ Below w.heap.size w w') := fun w => onetime_tag_yes _ _ w hex (by rw [str_size, boxL_len]; have := fillZ_lt more.data.toList.length; have := fillZ_lt c.data.toList.length; simp at *; omega)
  have HB : Hid (∀ w, Calls Tryz.prog 135 #[.string key, .int .u32 0, .string nonce] w fun e w' => e = .returned (.tuple #[.string (blockS key 0 nonce), .bool true]) ∧ Below w.heap.size w w') := fun w => stream_block_yes key 0 nonce w hk hn (by unfold W32; omega)
  have HG : Hid _ := fun w => box_tagged c more w hc hm
  generalize boxTag key nonce more c = T at *
  generalize blockS key 0 nonce = K at *
  generalize str (boxL more.data.toList c.data.toList) = L at *
  clear hk hn hc hm hex
  go_enter Tryz.func90, Tryz.ntmps90
  go_wp2_with fail
  with_reducible refine (HB.out _).mono ?_
  rintro e w1 ⟨rfl, b1⟩
  go_wp2_with fail
  replace b1 := b1.drew
  go_region_held3 (fun w' => True) (exact True.intro) (first | (go_at_call 139; (with_reducible refine (HG.out _).mono ?_); rintro e w5 ⟨rfl, b5⟩; replace b1 := bel_chain' b1 b5; clear b5) | (go_at_call 138; (with_reducible refine (HT.out _).mono ?_); rintro e w5 ⟨rfl, b5⟩; replace b1 := bel_chain' b1 b5; clear b5))
  all_goals
    go_wp2
    go_ret2
    exact ⟨rfl, b1⟩
theorem box_seal_yes (key nonce plain more : ByteArray) (w : World) (hk : key.size = 32) (hn : nonce.size = 12) (hc : plain.size ≤ 1000000) (hm : more.size ≤ 1000000) :
    Calls Tryz.prog 35 #[.string key, .string nonce, .string plain, .string more] w fun e w' => e = .returned (.tuple #[.string (sealS key nonce plain more), .bool true]) ∧ Below w.heap.size w w' := by
  have hz := hideS_size key 1 nonce plain
  have HX : Hid _ := fun w => stream_xor_yes key 1 nonce plain w hk hn (by unfold W32; omega) hc
  have HT : Hid _ := fun w => box_tagOf_yes key nonce (hideS key 1 nonce plain) more w hk hn (by omega) hm
  have HS : Hid (hideS key 1 nonce plain ++ boxTag key nonce more (hideS key 1 nonce plain) = sealS key nonce plain more) := rfl
  have ht := boxTag_size key nonce more (hideS key 1 nonce plain)
  generalize boxTag key nonce more (hideS key 1 nonce plain) = T at *
  generalize hideS key 1 nonce plain = H at *
  have hln : ¬ (9223372036854775807 < H.size + T.size) := by omega
  clear hk hn hm
  go_enter Tryz.func35, Tryz.ntmps35
  go_wp2_with fail
  with_reducible refine (HX.out _).mono ?_
  rintro e w1 ⟨rfl, b1⟩
  go_wp2_with fail
  with_reducible refine (HT.out _).mono ?_
  rintro e w2 ⟨rfl, b2⟩
  go_wp2
  go_ret2
  exact ⟨ret_sb1 HS.out, bel_chain' b1 b2⟩
theorem openOk_short (key nonce b more : ByteArray) (h : b.size < 16) : openOk key nonce b more = false ∧ openS key nonce b more = ⟨#[]⟩ := by
  have : openOk key nonce b more = false := by unfold openOk; rw [decide_eq_false (by omega)]; rfl
  exact ⟨this, by unfold openS; rw [this]; rfl⟩

set_option maxHeartbeats 400000 in
theorem box_open_yes (key nonce b more : ByteArray) (w : World) (hk : key.size = 32) (hn : nonce.size = 12) (hb : b.size ≤ 1000000) (hm : more.size ≤ 1000000) :
    Calls Tryz.prog 45 #[.string key, .string nonce, .string b, .string more] w fun e w' => e = .returned (.tuple #[.string (openS key nonce b more), .bool (openOk key nonce b more)]) ∧ Below w.heap.size w w' := by
  by_cases h16 : b.size < 16
  · obtain ⟨e1, e2⟩ := openOk_short key nonce b more h16
    rw [e1, e2]
    have hlt : (b.size : Int) < 16 := by omega
    clear hk hn hm e1 e2
    go_enter Tryz.func45, Tryz.ntmps45
    go_wp2
    go_ret2
    exact ⟨rfl, Below.refl _ _⟩
  · have hlt : ¬ (b.size : Int) < 16 := by omega
    have hx : (b.extract 0 (b.size - 16)).size = b.size - 16 := by simp
    have b0 : Below w.heap.size w w.drew := (Below.refl _ _).drew
    have hy : (b.extract (b.size - 16) b.size).size = 16 := by simp; omega
    have HT : Hid _ := fun w => box_tagOf_yes key nonce (b.extract 0 (b.size - 16)) more w hk hn (by omega) hm
    have HX : Hid _ := fun w => stream_xor_yes key 1 nonce (b.extract 0 (b.size - 16)) w hk hn (by unfold W32; omega) (by omega)
    have HD : Hid _ := fun w => box_differ (boxTag key nonce more (b.extract 0 (b.size - 16))) (b.extract (b.size - 16) b.size) w (by rw [boxTag_size]; omega) (by omega)
    by_cases ht : boxTag key nonce more (b.extract 0 (b.size - 16)) = b.extract (b.size - 16) b.size
    · have ok : openOk key nonce b more = true := by unfold openOk; rw [decide_eq_true ht, decide_eq_true (by omega)]; rfl
      have os : openS key nonce b more = hideS key 1 nonce (b.extract 0 (b.size - 16)) := by unfold openS; rw [ok, if_pos rfl]
      rw [ok, os]
      rw [show decide (boxTag key nonce more (b.extract 0 (b.size - 16)) ≠ b.extract (b.size - 16) b.size) = false from decide_eq_false (fun h => h ht)] at HD
      clear ht ok os hk hn hm
      generalize boxTag key nonce more (b.extract 0 (b.size - 16)) = T at *
      generalize hideS key 1 nonce (b.extract 0 (b.size - 16)) = H at *
      go_enter Tryz.func45, Tryz.ntmps45
      go_wp2_with fail
      go_region
      go_wp2_with fail
      with_reducible refine (HT.out _).mono ?_
      rintro e w1 ⟨rfl, b1⟩
      go_wp2_with fail
      with_reducible refine (HD.out _).mono ?_
      rintro e w2 ⟨rfl, b2⟩
      go_wp2_with fail
      with_reducible refine (HX.out _).mono ?_
      rintro e w3 ⟨rfl, b3⟩
      go_wp2
      go_ret2
      exact ⟨rfl, bel_chain' (bel_chain' (bel_chain' b0 b1) b2) b3⟩
    · have ok : openOk key nonce b more = false := by unfold openOk; rw [decide_eq_false ht, Bool.and_false]
      have os : openS key nonce b more = ⟨#[]⟩ := by unfold openS; rw [ok]; rfl
      rw [ok, os]
      rw [show decide (boxTag key nonce more (b.extract 0 (b.size - 16)) ≠ b.extract (b.size - 16) b.size) = true from decide_eq_true ht] at HD
      clear ht ok os hk hn hm HX
      generalize boxTag key nonce more (b.extract 0 (b.size - 16)) = T at *
      go_enter Tryz.func45, Tryz.ntmps45
      go_wp2_with fail
      go_region
      go_wp2_with fail
      with_reducible refine (HT.out _).mono ?_
      rintro e w1 ⟨rfl, b1⟩
      go_wp2_with fail
      with_reducible refine (HD.out _).mono ?_
      rintro e w2 ⟨rfl, b2⟩
      go_wp2
      go_ret2
      exact ⟨rfl, bel_chain' (bel_chain' b0 b1) b2⟩
end Go.Proofs.YtanghehmfagmfaaGreatDoor
