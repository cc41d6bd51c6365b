/-
  Parts of this proof, one behind the other: Bld0, Bld1, Cha7, Cha8, RefK, Bld2.
-/
import Derived.Shelf.Strings.Builder1
import Derived.Shelf.Strings.Builder2
import Derived.Test.YtanghehmfagmfaaGreatDoorProg
import Derived.Test.YtanghehmfagmfaaGreatDoorBun14
import Derived.Laws.LoneSync
import Derived.Test.YtanghehmfagmfaaGreatDoorBun13
import Derived.Test.YtanghehmfagmfaaGreatDoorBun10

/-
  Contracts of the library at this program, laid by the kit: Builder_Len, Builder_String_any, Builder_Grow_fresh.
-/
namespace Go.Proofs
open Go.Shelf
def Tryz.lays170_ren : Go.Shelf.Ren := ⟨fun | 170 => 130 | n => n, fun | 70 => 175 | 3 => 3 | 0 => 0 | 72 => 177 | 37 => 51 | 5 => 5 | n => n, fun | n => n⟩
theorem Tryz.lays170 : Go.Proofs.Lays.n170 Tryz.prog Tryz.lays170_ren := {
  mixed := by kernel_rfl
  f170 := Tryz.func130.trans (congrArg some (by kernel_rfl))
  t0 := Tryz.underlying0
  a0 := Tryz.isAgg0
  z0 := Tryz.sizeOf0
  v0 := Tryz.zeroValue0
  t3 := Tryz.underlying3
  a3 := Tryz.isAgg3
  z3 := Tryz.sizeOf3
  v3 := Tryz.zeroValue3
  t37 := Tryz.underlying51
  a37 := Tryz.isAgg51
  z37 := Tryz.sizeOf51
  v37 := Tryz.zeroValue51
  t70 := Tryz.underlying175
  a70 := Tryz.isAgg175
  z70 := Tryz.sizeOf175
  v70 := Tryz.zeroValue175
  t72 := Tryz.underlying177
  a72 := Tryz.isAgg177
  z72 := Tryz.sizeOf177
  v72 := Tryz.zeroValue177 }
open Go.RowKit in
theorem Tryz.Builder_Len (B b : Nat) (bs : List Value) (w : World) (h : Lib.IsBuilder 177 5 B b bs w) :
    Calls Tryz.prog 130 #[.pointer (some ⟨b, 0, none⟩)] w fun e w' => e = .returned (.int .i64 bs.length) ∧ w' = w := Any.Builder_Len Tryz.lays170 B b bs w h
def Tryz.lays169_ren : Go.Shelf.Ren := ⟨fun | 169 => 131 | n => n, fun | 70 => 175 | 9 => 9 | 0 => 0 | 72 => 177 | 37 => 51 | 127 => 172 | 3 => 3 | 5 => 5 | n => n, fun | n => n⟩
theorem Tryz.lays169 : Go.Proofs.Lays.n169 Tryz.prog Tryz.lays169_ren := {
  mixed := by kernel_rfl
  f169 := Tryz.func131.trans (congrArg some (by kernel_rfl))
  t0 := Tryz.underlying0
  a0 := Tryz.isAgg0
  z0 := Tryz.sizeOf0
  v0 := Tryz.zeroValue0
  t3 := Tryz.underlying3
  a3 := Tryz.isAgg3
  z3 := Tryz.sizeOf3
  v3 := Tryz.zeroValue3
  t9 := Tryz.underlying9
  a9 := Tryz.isAgg9
  z9 := Tryz.sizeOf9
  v9 := Tryz.zeroValue9
  t37 := Tryz.underlying51
  a37 := Tryz.isAgg51
  z37 := Tryz.sizeOf51
  v37 := Tryz.zeroValue51
  t70 := Tryz.underlying175
  a70 := Tryz.isAgg175
  z70 := Tryz.sizeOf175
  v70 := Tryz.zeroValue175
  t72 := Tryz.underlying177
  a72 := Tryz.isAgg177
  z72 := Tryz.sizeOf177
  v72 := Tryz.zeroValue177
  t127 := Tryz.underlying172
  a127 := Tryz.isAgg172
  z127 := Tryz.sizeOf172
  v127 := Tryz.zeroValue172 }
theorem Tryz.Builder_Extra_169 : Builder.Extra Tryz.prog Tryz.lays169_ren := {
  sizeBuilder := by kernel_rfl
  liesBuilder := by kernel_rfl
  t5 := Tryz.underlying5
  a5 := Tryz.isAgg5
  z5 := Tryz.sizeOf5
  v5 := Tryz.zeroValue5
  infoByte := by kernel_rfl
  cellsByte := by kernel_rfl
  sizeByte := by kernel_rfl
  neB5 := by decide }
open Go.RowKit in
theorem Tryz.Builder_String_any (B b : Nat) (l : List UInt8) (w : World) (h : Lib.IsBuilder 177 5 B b (Lib.byteCells l) w) (hBw : B ≤ w.heap.size) :
    Calls Tryz.prog 131 #[.pointer (some ⟨b, 0, none⟩)] w fun e w' => e = .returned (.string ⟨l.toArray⟩) ∧ Below B w w' := Any.Builder_String_any Tryz.lays169 Tryz.Builder_Extra_169 B b l w h hBw
def Tryz.lays165_ren : Go.Shelf.Ren := ⟨fun | 165 => 128 | 240 => 167 | 241 => 168 | 276 => 194 | 277 => 195 | n => n, fun | 70 => 175 | 3 => 3 | 0 => 0 | 4 => 4 | 9 => 9 | 20 => 20 | 72 => 177 | 37 => 51 | 164 => 236 | 5 => 5 | n => n, fun | n => n⟩
theorem Tryz.lays165 : Go.Proofs.Lays.n165 Tryz.prog Tryz.lays165_ren := {
  mixed := by kernel_rfl
  f165 := Tryz.func128.trans (congrArg some (by kernel_rfl))
  f240 := Tryz.func167.trans (congrArg some (by kernel_rfl))
  f241 := Tryz.func168.trans (congrArg some (by kernel_rfl))
  f276 := Tryz.func194.trans (congrArg some (by kernel_rfl))
  f277 := Tryz.func195.trans (congrArg some (by kernel_rfl))
  t0 := Tryz.underlying0
  a0 := Tryz.isAgg0
  z0 := Tryz.sizeOf0
  v0 := Tryz.zeroValue0
  t3 := Tryz.underlying3
  a3 := Tryz.isAgg3
  z3 := Tryz.sizeOf3
  v3 := Tryz.zeroValue3
  t4 := Tryz.underlying4
  a4 := Tryz.isAgg4
  z4 := Tryz.sizeOf4
  v4 := Tryz.zeroValue4
  t9 := Tryz.underlying9
  a9 := Tryz.isAgg9
  z9 := Tryz.sizeOf9
  v9 := Tryz.zeroValue9
  t20 := Tryz.underlying20
  a20 := Tryz.isAgg20
  z20 := Tryz.sizeOf20
  v20 := Tryz.zeroValue20
  t37 := Tryz.underlying51
  a37 := Tryz.isAgg51
  z37 := Tryz.sizeOf51
  v37 := Tryz.zeroValue51
  t70 := Tryz.underlying175
  a70 := Tryz.isAgg175
  z70 := Tryz.sizeOf175
  v70 := Tryz.zeroValue175
  t72 := Tryz.underlying177
  a72 := Tryz.isAgg177
  z72 := Tryz.sizeOf177
  v72 := Tryz.zeroValue177
  t164 := Tryz.underlying236
  a164 := Tryz.isAgg236
  z164 := Tryz.sizeOf236
  v164 := Tryz.zeroValue236 }
theorem Tryz.Builder_Extra_165 : Builder.Extra Tryz.prog Tryz.lays165_ren := {
  sizeBuilder := by kernel_rfl
  liesBuilder := by kernel_rfl
  t5 := Tryz.underlying5
  a5 := Tryz.isAgg5
  z5 := Tryz.sizeOf5
  v5 := Tryz.zeroValue5
  infoByte := by kernel_rfl
  cellsByte := by kernel_rfl
  sizeByte := by kernel_rfl
  neB5 := by decide }
open Go.RowKit in
theorem Tryz.Builder_Grow_fresh (B b n : Nat) (w : World) (hB : B ≤ b) (hbk : w.heap[b]? = some (.cells #[.pointer none, .slice none 0 0] 177 (0, 0))) (hBw : B ≤ w.heap.size) (hn : n ≤ 281474976710656) :
    Calls Tryz.prog 128 #[.pointer (some ⟨b, 0, none⟩), .int .i64 n] w fun e w' => e = .returned (.tuple #[]) ∧ (Lib.BuilderAt 177 5 B b (.pointer (some ⟨b, 0, none⟩)) [] w' ∧ Below B w w') := Any.Builder_Grow_fresh Tryz.lays165 Tryz.Builder_Extra_165 B b n w hB hbk hBw hn
end Go.Proofs

/-
  The library's contract of (*strings.Builder).WriteString at this program, laid by hand (the kit's own laying stops at a type that no body names).
-/
namespace Go.Proofs
open Go.Shelf Go.RowKit
set_option linter.unusedVariables false
set_option maxRecDepth 100000

def Tryz.lays166_ren : Go.Shelf.Ren := ⟨fun | 166 => 129 | 240 => 167 | 276 => 194 | n => n, fun | 0 => 0 | 3 => 3 | 4 => 4 | 9 => 9 | 20 => 20 | 37 => 51 | 70 => 175 | 72 => 177 | 75 => 180 | 164 => 236 | 5 => 5 | 80 => 183 | n => n, fun | n => n⟩
theorem Tryz.lays166 : Go.Proofs.Lays.n166 Tryz.prog Tryz.lays166_ren := {
  mixed := by kernel_rfl
  f166 := Tryz.func129.trans (congrArg some (by kernel_rfl))
  f240 := Tryz.func167.trans (congrArg some (by kernel_rfl))
  f276 := Tryz.func194.trans (congrArg some (by kernel_rfl))
  t0 := Tryz.underlying0
  a0 := Tryz.isAgg0
  z0 := Tryz.sizeOf0
  v0 := Tryz.zeroValue0
  t3 := Tryz.underlying3
  a3 := Tryz.isAgg3
  z3 := Tryz.sizeOf3
  v3 := Tryz.zeroValue3
  t4 := Tryz.underlying4
  a4 := Tryz.isAgg4
  z4 := Tryz.sizeOf4
  v4 := Tryz.zeroValue4
  t9 := Tryz.underlying9
  a9 := Tryz.isAgg9
  z9 := Tryz.sizeOf9
  v9 := Tryz.zeroValue9
  t20 := Tryz.underlying20
  a20 := Tryz.isAgg20
  z20 := Tryz.sizeOf20
  v20 := Tryz.zeroValue20
  t37 := Tryz.underlying51
  a37 := Tryz.isAgg51
  z37 := Tryz.sizeOf51
  v37 := Tryz.zeroValue51
  t70 := Tryz.underlying175
  a70 := Tryz.isAgg175
  z70 := Tryz.sizeOf175
  v70 := Tryz.zeroValue175
  t72 := Tryz.underlying177
  a72 := Tryz.isAgg177
  z72 := Tryz.sizeOf177
  v72 := Tryz.zeroValue177
  t75 := Tryz.underlying180
  a75 := Tryz.isAgg180
  z75 := Tryz.sizeOf180
  v75 := Tryz.zeroValue180
  t164 := Tryz.underlying236
  a164 := Tryz.isAgg236
  z164 := Tryz.sizeOf236
  v164 := Tryz.zeroValue236 }
theorem Tryz.Builder_Extra_166 : Builder.Extra Tryz.prog Tryz.lays166_ren := {
  sizeBuilder := by kernel_rfl
  liesBuilder := by kernel_rfl
  t5 := Tryz.underlying5
  a5 := Tryz.isAgg5
  z5 := Tryz.sizeOf5
  v5 := Tryz.zeroValue5
  infoByte := by kernel_rfl
  cellsByte := by kernel_rfl
  sizeByte := by kernel_rfl
  neB5 := by decide }
theorem Tryz.Builder_WriteString (B b : Nat) (bs : List Value) (s : ByteArray) (w : World) (h : Lib.IsBuilder 177 5 B b bs w) (hlen : bs.length + s.size ≤ 140737488355328) (hBw : B ≤ w.heap.size) :
    Calls Tryz.prog 129 #[.pointer (some ⟨b, 0, none⟩), .string s] w fun e w' => e = .returned (.tuple #[.int .i64 s.size, .nilIface]) ∧ (Lib.BuilderAt 177 5 B b (.pointer (some ⟨b, 0, none⟩)) (bs ++ Lib.strCells s) w' ∧ Below B w w') := Any.Builder_WriteString Tryz.lays166 Tryz.Builder_Extra_166 B b bs s w h hlen hBw

end Go.Proofs

/-
  The contract of package stream's Xor.
-/
namespace Go.Proofs.YtanghehmfagmfaaGreatDoor
open Go.RowKit
set_option linter.unusedVariables false
set_option maxRecDepth 100000

/-- An atomic.Uint32, one goroutine. -/
theorem u32_store (a : Addr) (x : Value) (y : Int) (w : World) (hc : w.cell? a = some x) (hz : w.frozen? a = false) :
    Calls Tryz.prog 134 #[.pointer (some a), .int .u32 y] w fun e w' => e = .returned (.tuple #[]) ∧ w' = w.setCell a (.int .u32 y) := by
  have hl := run_call_store (P := Tryz.prog) Tryz.func169 (by kernel_rfl) (by kernel_rfl) (by kernel_rfl) (by kernel_rfl) (k := .u32) (y := y) hc hz
  go_enter Tryz.func134, Tryz.ntmps134
  go_wp2
  go_end0
  exact ⟨rfl, rfl⟩
theorem u32_add (a : Addr) (x y : Int) (w : World) (hc : w.cell? a = some (.int .u32 x)) (hz : w.frozen? a = false) :
    Calls Tryz.prog 136 #[.pointer (some a), .int .u32 y] w fun e w' => e = .returned (.int .u32 (addI x y)) ∧ w' = w.setCell a (.int .u32 (addI x y)) := by
  have hadd : (Op.intArith .add .u32 x y).run Tryz.prog w = .ok (.int .u32 (addI x y)) w := by
    have e : IntKind.u32.wrap (x + y) = addI x y := by unfold addI; rw [IntKind.wrap_u32]
    go_simp
  have hl := run_call_add (P := Tryz.prog) Tryz.func173 (by kernel_rfl) (by kernel_rfl) (by kernel_rfl) .u32 (by kernel_rfl) hc hz hadd
  go_enter Tryz.func136, Tryz.ntmps136
  go_wp2
  go_ret
  exact ⟨rfl, rfl⟩

theorem builder_kept {T e : TypeId} {B b : Nat} {p : Value} {bs : List Value} {w w' : World} (h : Lib.BuilderAt T e B b p bs w) (hb : Below w.heap.size w w') : Lib.BuilderAt T e B b p bs w' := by
  have hlt := h.lt
  obtain ⟨hB, v, hk, hown, hne⟩ := h
  exact ⟨hB, v, (hb.block b hlt).trans hk, owns_below hown hb, hne⟩
theorem builder_set {T e : TypeId} {B b : Nat} {p : Value} {bs : List Value} {w : World} (h : Lib.BuilderAt T e B b p bs w) {a : Addr} (ha : a.block < B) (v : Value) : Lib.BuilderAt T e B b p bs (w.setCell a v) := by
  obtain ⟨hB, x, hk, hown, hne⟩ := h
  refine ⟨hB, x, ?_, ?_, hne⟩
  · rw [Below.heap_setCell _ _ _ _ (by omega)]; exact hk
  · obtain ⟨h1, h2⟩ := hown
    refine ⟨h1, ?_⟩
    rcases h2 with h2 | ⟨g, cap, cur, hv, hg, hh, r⟩
    · exact Or.inl h2
    · exact Or.inr ⟨g, cap, cur, hv, hg, by rw [Below.heap_setCell _ _ _ _ (by omega)]; exact hh, r⟩
/-- How many bytes the builder in block n holds. -/
def bLen (w : World) (n : Nat) : Nat := match w.cell? ⟨n, 1, none⟩ with
  | some (.slice _ l _) => l
  | _ => 0
theorem bLen_of {T e : TypeId} {B b : Nat} {p : Value} {bs : List Value} {w : World} (h : Lib.BuilderAt T e B b p bs w) : bLen w b = bs.length := by
  obtain ⟨hB, v, hk, hown, hne⟩ := h
  have hc : w.cell? ⟨b, 1, none⟩ = some v := by rw [Lib.cell_of_heap hk]; rfl
  unfold bLen
  rw [hc]
  rcases hown.2 with ⟨rfl, h0⟩ | ⟨g, cap, cur, rfl, _⟩
  · exact h0.symm
  · rfl
theorem drop_str (b : ByteArray) (n : Nat) (x : Int) (hx : x = (n : Int)) (hn : n ≤ b.size) (w : World) :
    (Instr.slice 9 (.string b) (some (.int .i64 x)) none none).run Tryz.prog w = .ok (.string (str (b.data.toList.drop n))) w := by
  subst hx
  rw [run_slice_string_l (P := Tryz.prog) w 9 b Tryz.underlying9 .i64 (n : Int) (by omega) (by omega)]
  congr 2
  rw [Int.toNat_natCast]
  unfold str
  apply ByteArray.ext
  rw [ByteArray.data_extract]
  apply Array.toList_inj.1
  rw [Array.toList_extract]
  simp [List.take_of_length_le]

end Go.Proofs.YtanghehmfagmfaaGreatDoor

/-
  The contract of package stream's Xor: the loop.
-/
namespace Go.Proofs.YtanghehmfagmfaaGreatDoor
open Go.RowKit
set_option linter.unusedVariables false
set_option maxRecDepth 100000

theorem bel_chain' {w w1 w2 : World} (h1 : Below w.heap.size w w1) (h2 : Below w1.heap.size w1 w2) : Below w.heap.size w w2 := h1.trans (h2.mono h1.size)

set_option maxRecDepth 100000 in
set_option maxHeartbeats 2000000 in
theorem stream_xor_yes (key : ByteArray) (c : Int) (nonce b : ByteArray) (w : World) (hk : key.size = 32) (hn : nonce.size = 12) (hc : W32 c) (hb : b.size ≤ 1000000) :
    Calls Tryz.prog 89 #[.string key, .int .u32 c, .string nonce, .string b] w fun e w' => e = .returned (.tuple #[.string (hideS key c nonce b), .bool true]) ∧ Below w.heap.size w w' := by
  have hfit : decide (key.size = 32 ∧ nonce.size = 12) = true := by simp [hk, hn]
  have hA := stream_areFit key nonce w
  rw [hfit] at hA
  have HBK : Hid (∀ (c : Int) (w : World), W32 c → Calls Tryz.prog 135 #[.string key, .int .u32 c, .string nonce] w fun e w' => e = .returned (.tuple #[.string (blockS key c nonce), .bool true]) ∧ Below w.heap.size w w') := fun c w h => stream_block_yes key c nonce w hk hn h
  go_enter Tryz.func89, Tryz.ntmps89
  go_wp2_with (first | (go_at_call 133; refine hA.mono ?_; rintro e w' ⟨rfl, rfl⟩))
  have r0 : RowIs (w.alloc (.cells #[.int .u32 0] 185)) w.heap.size 185 [.int .u32 0] := RowIs.new w _ _
  have b0 : Below w.heap.size w (w.alloc (.cells #[.int .u32 0] 185)) := (Below.refl _ _).alloc (Nat.le_refl _) _
  generalize w.alloc (.cells #[.int .u32 0] 185) = w1 at *
  refine (u32_store ⟨w.heap.size, 0, none⟩ _ c w1 (r0.cellAt rfl) (r0.frozen 0)).mono ?_
  rintro e w' ⟨rfl, rfl⟩
  have r1 : RowIs (w1.setCell ⟨w.heap.size, 0, none⟩ (.int .u32 c)) w.heap.size 185 [.int .u32 c] := r0.set 0 _
  have b1 : Below w.heap.size w (w1.setCell ⟨w.heap.size, 0, none⟩ (.int .u32 c)) := b0.setCell (Nat.le_refl _) _
  clear r0 b0
  generalize w1.setCell ⟨w.heap.size, 0, none⟩ (.int .u32 c) = w2 at *
  have r2 : RowIs (w2.alloc (.cells #[.pointer none, .slice none 0 0] 177)) w.heap.size 185 [.int .u32 c] := r1.alloc _
  have b2 : Below w.heap.size w (w2.alloc (.cells #[.pointer none, .slice none 0 0] 177)) := b1.alloc b1.size _
  have hbk : (w2.alloc (.cells #[.pointer none, .slice none 0 0] 177)).heap[w2.heap.size]? = some (.cells #[.pointer none, .slice none 0 0] 177 (0, 0)) := RowIs.new w2 _ [.pointer none, .slice none 0 0]
  have hsz : w2.heap.size ≤ (w2.alloc (.cells #[.pointer none, .slice none 0 0] 177)).heap.size := by simp
  have hlt := r1.lt
  have hle := b1.size
  clear r1 b1
  go_wp2_with fail
  generalize w2.alloc (.cells #[.pointer none, .slice none 0 0] 177) = w3 at *
  refine (Tryz.Builder_Grow_fresh w2.heap.size w2.heap.size b.size w3 (Nat.le_refl _) hbk hsz (by omega)).mono ?_
  rintro e w4 ⟨rfl, d4, b4⟩
  have r4 : RowIs w4 w.heap.size 185 [.int .u32 c] := r2.below b4 hlt
  have e4 : Below w.heap.size w w4 := b2.trans (b4.mono (Nat.le_of_lt hlt))
  have s4 : w2.heap.size ≤ w4.heap.size := Nat.le_trans hsz b4.size
  clear r2 b2 hbk hsz b4
  generalize w2.heap.size = N at *
  have H0 : Hid (hideTo key c nonce b 0 = []) := by show xorL _ _ = _; unfold xorL; simp [keysTo]
  have C0 : Hid (addI c ((0 : Nat) : Int) = c) := addI_zero hc
  go_wp2_with fail
  go_loopw [12] (fun v wr => ∃ j : Nat, j ≤ b.size ∧ RowIs wr w.heap.size 185 [.int .u32 (addI c (j : Int))] ∧ Lib.BuilderAt 177 5 N N (.pointer (some ⟨N, 0, none⟩)) (cells8 (hideTo key c nonce b j)) wr ∧ Below w.heap.size w wr ∧ N ≤ wr.heap.size) (fun _ wr => b.size - bLen wr N)
  case atStart => exact ⟨0, Nat.zero_le _, by rw [C0.out]; exact r4, by rw [H0.out]; exact d4, e4, s4⟩
  case round =>
    clear r4 d4 e4 s4 H0 C0
    obtain ⟨j, hj, rr, rb, rd, rs⟩ := hrel
    have hlen : (cells8 (hideTo key c nonce b j)).length = min b.size (64 * j) := by rw [cells8_len, hideTo_len]
    by_cases hlt64 : 64 * j < b.size
    · rw [show min b.size (64 * j) = 64 * j from by omega] at hlen
      have hL : ∀ w', Lib.BuilderAt 177 5 N N (.pointer (some ⟨N, 0, none⟩)) (cells8 (hideTo key c nonce b j)) w' → Calls Tryz.prog 130 #[.pointer (some ⟨N, 0, none⟩)] w' fun e w'' => e = .returned (.int .i64 (64 * (j : Int))) ∧ w' = w'' := by
        intro w' h
        refine (Tryz.Builder_Len N N _ w' (Or.inr h)).mono ?_
        rintro e w'' ⟨rfl, rfl⟩
        exact ⟨by rw [hlen]; simp, rfl⟩
      have HL : Hid _ := hL
      clear hL
      have hcmp : 64 * (j : Int) < (b.size : Int) := by omega
      have hx : W32 (addI c (j : Int)) := addI_w _ _
      have hsub : (addI (addI c (j : Int)) 1 - 1) % 4294967296 = addI c (j : Int) := by
        have h1 := hx.1
        have h2 := hx.2
        generalize addI c (j : Int) = x at *
        unfold addI
        omega
      have HN : Hid (addI c ((j + 1 : Nat) : Int) = addI (addI c (j : Int)) 1) := by
        show _ = _
        rw [addI_addI, Int.natCast_add]; rfl
      have HH : Hid (hideTo key c nonce b (j + 1) = hideTo key c nonce b j ++ xorL (b.data.toList.drop (64 * j)) (blockL key (addI c (j : Int)) nonce)) := hideTo_succ key c nonce b j (by omega)
      have hsl := drop_str b (64 * j) (64 * (j : Int)) (by simp) (by omega)
      have HX : Hid (xorS (str (b.data.toList.drop (64 * j))) (blockS key (addI c (j : Int)) nonce) = str (xorL (b.data.toList.drop (64 * j)) (blockL key (addI c (j : Int)) nonce))) := by
        show xorS _ _ = _
        unfold xorS blockS str
        rfl
      have hds : (str (b.data.toList.drop (64 * j))).size ≤ 1000000 := by rw [str_size]; simp; omega
      have hbz := blockS_size key (addI c (j : Int)) nonce
      have hxl : (xorL (b.data.toList.drop (64 * j)) (blockL key (addI c (j : Int)) nonce)).length ≤ 64 := by unfold xorL; rw [List.length_zipWith, blockL_len]; omega
      have hbkx := fun w => HBK.out (addI c (j : Int)) w hx
      have HB2 : Hid _ := hbkx
      clear hbkx HBK
      have hm1 := bLen_of rb
      rw [hlen] at hm1
      generalize addI c (j : Int) = x at *
      have HY0 : Hid (∃ y, addI x 1 = y) := ⟨_, rfl⟩
      obtain ⟨y, hy⟩ := HY0.out
      rw [hy] at hsub HN
      have HY : Hid (addI x 1 = y) := hy
      clear hy HY0
      go_wp2_with fail
      refine (HL.out _ rb).mono ?_
      rintro e w' ⟨rfl, rfl⟩
      go_wp2_with fail
      refine (u32_add ⟨w.heap.size, 0, none⟩ x 1 wr (rr.cellAt rfl) (rr.frozen 0)).mono ?_
      rintro e w' ⟨rfl, rfl⟩
      rw [HY.out]
      have r5 : RowIs (wr.setCell ⟨w.heap.size, 0, none⟩ (.int .u32 y)) w.heap.size 185 [.int .u32 y] := rr.set 0 _
      have d5 := builder_set rb (a := ⟨w.heap.size, 0, none⟩) hlt (.int .u32 y)
      have e5 : Below w.heap.size w (wr.setCell ⟨w.heap.size, 0, none⟩ (.int .u32 y)) := rd.setCell (Nat.le_refl _) _
      have s5 : N ≤ (wr.setCell ⟨w.heap.size, 0, none⟩ (.int .u32 y)).heap.size := by simpa [World.setCell] using rs
      clear rr rb rd rs
      generalize wr.setCell ⟨w.heap.size, 0, none⟩ (.int .u32 y) = w5 at *
      go_wp2_with fail
      refine (HB2.out w5).mono ?_
      rintro e w6 ⟨rfl, b6⟩
      have r6 := r5.below b6 r5.lt
      have d6 := builder_kept d5 b6
      have e6 := bel_chain' e5 b6
      have s6 := Nat.le_trans s5 b6.size
      clear r5 d5 e5 s5 b6
      go_wp2_with fail
      refine (HL.out _ d6).mono ?_
      rintro e w' ⟨rfl, rfl⟩
      go_wp2_with fail
      refine (octet_xor _ _ _ (by omega) (by rw [hbz]; omega)).mono ?_
      rintro e w7 ⟨rfl, b7⟩
      rw [HX.out]
      have r7 := r6.below b7 r6.lt
      have d7 := builder_kept d6 b7
      have e7 := bel_chain' e6 b7
      have s7 := Nat.le_trans s6 b7.size
      clear r6 d6 e6 s6 b7
      go_wp2_with fail
      refine (Tryz.Builder_WriteString N N _ _ w7 (Or.inr d7) (by rw [hlen, str_size]; omega) s7).mono ?_
      rintro e w8 ⟨rfl, d8, b8⟩
      rw [strCells_str, ← cells8_append, ← HH.out] at d8
      have r8 := r7.below b8 hlt
      have e8 := e7.trans (b8.mono (Nat.le_of_lt hlt))
      have s8 := Nat.le_trans s7 b8.size
      have hm2 := bLen_of d8
      rw [cells8_len, hideTo_len] at hm2
      go_wp2_with fail
      go_roundw
      case rel => exact ⟨j + 1, by omega, by rw [HN.out]; exact r8, d8, e8, s8⟩
      case measure => rw [hm1, hm2]; omega
    · rw [show min b.size (64 * j) = b.size from by omega] at hlen
      have hL := Tryz.Builder_Len N N _ wr (Or.inr rb)
      rw [hlen] at hL
      have hS := Tryz.Builder_String_any N N (hideTo key c nonce b j) wr (Or.inr rb) rs
      have HE : Hid (hideS key c nonce b = str (hideTo key c nonce b j)) := hideS_at key c nonce b j (by omega)
      go_wp2_with (first | (go_at_call 130; refine hL.mono ?_; rintro e w' ⟨rfl, rfl⟩) | (go_at_call 131; refine hS.mono ?_; rintro e w5 ⟨rfl, b5⟩))
      go_ret2
      exact ⟨ret_sb1 HE.out.symm, rd.trans (b5.mono (Nat.le_of_lt hlt))⟩

end Go.Proofs.YtanghehmfagmfaaGreatDoor

/-
  The contract of the reference's Stream.
-/
namespace Go.Proofs.YtanghehmfagmfaaGreatDoor
open Go.RowKit
set_option linter.unusedVariables false
set_option maxRecDepth 100000

set_option maxRecDepth 100000 in
set_option maxHeartbeats 2000000 in
theorem ref_stream (key : ByteArray) (c : Int) (nonce b : ByteArray) (w : World) (hk : key.size = 32) (hn : nonce.size = 12) (hc : W32 c) (hb : b.size ≤ 1000000) :
    Calls Tryz.prog 97 #[.string key, .int .u32 c, .string nonce, .string b] w fun e w' => e = .returned (.string (hideS key c nonce b)) ∧ Below w.heap.size w w' := by
  have HBK : Hid (∀ (c : Int) (w : World), W32 c → Calls Tryz.prog 99 #[.string key, .int .u32 c, .string nonce] w fun e w' => e = .returned (.string (blockS key c nonce)) ∧ Below w.heap.size w w') := fun c w h => ref_block key c nonce w hk hn h
  have H0 : Hid (hideTo key c nonce b 0 = []) := by show xorL _ _ = _; unfold xorL; simp [keysTo]
  have C0 : Hid (addI c ((0 : Nat) : Int) = c) := addI_zero hc
  go_enter Tryz.func97, Tryz.ntmps97
  go_wp2_with fail
  go_loopw [1, 9, 10] (fun cv o i wr => ∃ j : Nat, j ≤ b.size ∧ i = .int .i64 (64 * (j : Int)) ∧ cv = .int .u32 (addI c (j : Int)) ∧ o = .string (str (hideTo key c nonce b j)) ∧ Below w.heap.size w wr) (fun _ _ i _ => (b.size + 64 - (intOf i).toNat))
  case atStart => exact ⟨0, Nat.zero_le _, rfl, by rw [C0.out], by rw [H0.out]; rfl, Below.refl _ _⟩
  case round =>
    clear H0 C0
    obtain ⟨j, hj, rfl, rfl, rfl, bel⟩ := hrel
    by_cases hlt : 64 * j < b.size
    · have hcmp : 64 * (j : Int) < (b.size : Int) := by omega
      have hx : W32 (addI c (j : Int)) := addI_w _ _
      have HN : Hid (addI c ((j + 1 : Nat) : Int) = (addI c (j : Int) + 1) % 4294967296) := by
        show _ = addI (addI c (j : Int)) 1
        rw [addI_addI, Int.natCast_add]; rfl
      have HH : Hid (hideTo key c nonce b (j + 1) = hideTo key c nonce b j ++ xorL (b.data.toList.drop (64 * j)) (blockL key (addI c (j : Int)) nonce)) := hideTo_succ key c nonce b j (by omega)
      have hsl := drop_str b (64 * j) (64 * (j : Int)) (by simp) (by omega)
      have HX : Hid (xorS (str (b.data.toList.drop (64 * j))) (blockS key (addI c (j : Int)) nonce) = str (xorL (b.data.toList.drop (64 * j)) (blockL key (addI c (j : Int)) nonce))) := by
        show xorS _ _ = _
        unfold xorS blockS str
        rfl
      have hds : (str (b.data.toList.drop (64 * j))).size ≤ 1000000 := by rw [str_size]; simp; omega
      have hbz := blockS_size key (addI c (j : Int)) nonce
      have hxl : (xorL (b.data.toList.drop (64 * j)) (blockL key (addI c (j : Int)) nonce)).length ≤ 64 := by unfold xorL; rw [List.length_zipWith, blockL_len]; omega
      have hl1 : (str (hideTo key c nonce b j)).size ≤ 1000000 := by rw [str_size, hideTo_len]; omega
      have hcat : str (hideTo key c nonce b j) ++ str (xorL (b.data.toList.drop (64 * j)) (blockL key (addI c (j : Int)) nonce)) = str (hideTo key c nonce b (j + 1)) := by rw [str_cat5, HH.out]
      have hl2 : (str (xorL (b.data.toList.drop (64 * j)) (blockL key (addI c (j : Int)) nonce))).size ≤ 64 := by rw [str_size]; exact hxl
      have hbkx := fun w => HBK.out (addI c (j : Int)) w hx
      have hxr := fun w => ref_xor (str (b.data.toList.drop (64 * j))) (blockS key (addI c (j : Int)) nonce) w (by omega) (by rw [hbz]; omega)
      rw [HX.out] at hxr
      have HB2 : Hid _ := hbkx
      have HXR : Hid _ := hxr
      clear hbkx HBK hxr HX HH hxl hbz hds
      have hln : ¬ (9223372036854775807 < (str (hideTo key c nonce b j)).size + (str (xorL (b.data.toList.drop (64 * j)) (blockL key (addI c (j : Int)) nonce))).size) := by omega
      generalize str (xorL (b.data.toList.drop (64 * j)) (blockL key (addI c (j : Int)) nonce)) = X at *
      generalize blockS key (addI c (j : Int)) nonce = Y at *
      generalize str (b.data.toList.drop (64 * j)) = Z at *
      generalize str (hideTo key c nonce b j) = V at *
      generalize addI c (j : Int) = x at *
      have hx0 := hx.1
      have hx1 := hx.2
      clear hx
      have HCAT : Hid (V ++ X = str (hideTo key c nonce b (j + 1))) := hcat
      clear hcat
      go_wp2_with fail
      replace bel := bel.drew
      go_region_held3 (fun w' => True) (exact True.intro) (first | (go_at_call 99; refine (HB2.out _).mono ?_; rintro e w5 ⟨rfl, b5⟩; replace bel := bel_chain' bel b5; clear b5) | (go_at_call 143; refine (HXR.out _).mono ?_; rintro e w6 ⟨rfl, b6⟩; replace bel := bel_chain' bel b6; clear b6))
      go_wp2
      go_roundw
      case rel => exact ⟨j + 1, by omega, by rw [show (64 : Int) * ((j + 1 : Nat) : Int) = 64 * (j : Int) + 64 from by omega], by rw [HN.out], by rw [HCAT.out], bel⟩
      case measure => simp [intOf]; omega
    · have HE : Hid (hideS key c nonce b = str (hideTo key c nonce b j)) := hideS_at key c nonce b j (by omega)
      have hcmp : ¬ 64 * (j : Int) < (b.size : Int) := by omega
      go_wp2
      go_ret
      exact ⟨ret_str HE.out.symm, bel⟩

end Go.Proofs.YtanghehmfagmfaaGreatDoor

/-
  The library's contract of (*strings.Builder).WriteByte at this program, laid by hand (the kit's own laying stops at a type that no body names).
-/
namespace Go.Proofs
open Go.Shelf Go.RowKit
set_option linter.unusedVariables false
set_option maxRecDepth 100000

def Tryz.lays167_ren : Go.Shelf.Ren := ⟨fun | 167 => 203 | 240 => 167 | 276 => 194 | n => n, fun | 0 => 0 | 4 => 4 | 9 => 9 | 20 => 20 | 37 => 51 | 70 => 175 | 72 => 177 | 75 => 180 | 164 => 236 | 5 => 5 | 80 => 183 | n => n, fun | n => n⟩
theorem Tryz.lays167 : Go.Proofs.Lays.n167 Tryz.prog Tryz.lays167_ren := {
  mixed := by kernel_rfl
  f167 := Tryz.func203.trans (congrArg some (by kernel_rfl))
  f240 := Tryz.func167.trans (congrArg some (by kernel_rfl))
  f276 := Tryz.func194.trans (congrArg some (by kernel_rfl))
  t0 := Tryz.underlying0
  a0 := Tryz.isAgg0
  z0 := Tryz.sizeOf0
  v0 := Tryz.zeroValue0
  t4 := Tryz.underlying4
  a4 := Tryz.isAgg4
  z4 := Tryz.sizeOf4
  v4 := Tryz.zeroValue4
  t5 := Tryz.underlying5
  a5 := Tryz.isAgg5
  z5 := Tryz.sizeOf5
  v5 := Tryz.zeroValue5
  t9 := Tryz.underlying9
  a9 := Tryz.isAgg9
  z9 := Tryz.sizeOf9
  v9 := Tryz.zeroValue9
  t20 := Tryz.underlying20
  a20 := Tryz.isAgg20
  z20 := Tryz.sizeOf20
  v20 := Tryz.zeroValue20
  t37 := Tryz.underlying51
  a37 := Tryz.isAgg51
  z37 := Tryz.sizeOf51
  v37 := Tryz.zeroValue51
  t70 := Tryz.underlying175
  a70 := Tryz.isAgg175
  z70 := Tryz.sizeOf175
  v70 := Tryz.zeroValue175
  t72 := Tryz.underlying177
  a72 := Tryz.isAgg177
  z72 := Tryz.sizeOf177
  v72 := Tryz.zeroValue177
  t75 := Tryz.underlying180
  a75 := Tryz.isAgg180
  z75 := Tryz.sizeOf180
  v75 := Tryz.zeroValue180
  t164 := Tryz.underlying236
  a164 := Tryz.isAgg236
  z164 := Tryz.sizeOf236
  v164 := Tryz.zeroValue236 }
theorem Tryz.Builder_Extra_167 : Builder.Extra Tryz.prog Tryz.lays167_ren := {
  sizeBuilder := by kernel_rfl
  liesBuilder := by kernel_rfl
  t5 := Tryz.underlying5
  a5 := Tryz.isAgg5
  z5 := Tryz.sizeOf5
  v5 := Tryz.zeroValue5
  infoByte := by kernel_rfl
  cellsByte := by kernel_rfl
  sizeByte := by kernel_rfl
  neB5 := by decide }
theorem Tryz.Builder_WriteByte (B b : Nat) (bs : List Value) (c : Int) (w : World) (h : Lib.IsBuilder 177 5 B b bs w) (hlen : bs.length + 1 ≤ 140737488355328) (hBw : B ≤ w.heap.size) :
    Calls Tryz.prog 203 #[.pointer (some ⟨b, 0, none⟩), .int .u8 c] w fun e w' => e = .returned .nilIface ∧ (Lib.BuilderAt 177 5 B b (.pointer (some ⟨b, 0, none⟩)) (bs ++ [.int .u8 c]) w' ∧ Below B w w') := Any.Builder_WriteByte Tryz.lays167 Tryz.Builder_Extra_167 B b bs c w h hlen hBw

end Go.Proofs
