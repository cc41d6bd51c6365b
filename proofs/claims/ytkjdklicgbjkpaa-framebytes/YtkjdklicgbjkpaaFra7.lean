/-
  The law FrameDead over contracts of package frame.
-/
import Derived.Test.YtkjdklicgbjkpaaFra5
import Derived.Laws.BitsLemmas
import Derived.Deep.RegionHeld3
namespace Go.Proofs.Ytkjdklicgbjkpaa
open Go.RowKit
set_option linter.unusedVariables false
set_option maxRecDepth 100000
set_option linter.unusedSimpArgs false

theorem i64_and1 (n : Int) : bits .and .i64 n 1 = n % 2 := by
  have h1 : (BitVec.ofInt 64 1).toNat = 2 ^ 1 - 1 := by decide
  have key : (BitVec.ofInt 64 n &&& BitVec.ofInt 64 1).toNat = (n % ((2 ^ 64 : Nat) : Int)).toNat % 2 ^ 1 := by
    rw [BitVec.toNat_and, BitVec.toNat_ofInt, h1, Nat.and_two_pow_sub_one_eq_mod]
  show IntKind.i64.wrap ((BitVec.ofInt 64 n &&& BitVec.ofInt 64 1).toNat : Nat) = n % 2
  rw [key, IntKind.wrap_i64]
  omega
theorem i64_and1023 (n : Int) : bits .and .i64 n 1023 = n % 1024 := by
  have h1 : (BitVec.ofInt 64 1023).toNat = 2 ^ 10 - 1 := by decide
  have key : (BitVec.ofInt 64 n &&& BitVec.ofInt 64 1023).toNat = (n % ((2 ^ 64 : Nat) : Int)).toNat % 2 ^ 10 := by
    rw [BitVec.toNat_and, BitVec.toNat_ofInt, h1, Nat.and_two_pow_sub_one_eq_mod]
  show IntKind.i64.wrap ((BitVec.ofInt 64 n &&& BitVec.ofInt 64 1023).toNat : Nat) = n % 1024
  rw [key, IntKind.wrap_i64]
  omega
/-- Two bytes that tell a number, as a text. -/
def two9 (n : Nat) : ByteArray := str [byteOf (n : Int) 1, byteOf (n : Int) 0]
theorem two9_conv (W : World) (n : Nat) (hn : n < 65536) : (convert 56 9 (.slice (some ⟨W.heap.size, 0, none⟩) 2 2)).run Try.prog (W.alloc (.cells #[.int .u8 ((n : Int) / 256), .int .u8 ((n : Int) % 256)] 5)) = .ok (.string (two9 n)) (W.alloc (.cells #[.int .u8 ((n : Int) / 256), .int .u8 ((n : Int) % 256)] 5)) := by
  have h1 := byteOf_val (n : Int) 1
  have h0 := byteOf_val (n : Int) 0
  have e1 : ((byteOf (n : Int) 1).toNat : Int) = (n : Int) / 256 := by rw [h1]; simp; omega
  have e0 : ((byteOf (n : Int) 0).toNat : Int) = (n : Int) % 256 := by rw [h0]; simp
  have hrow : RowIs (W.alloc (.cells #[.int .u8 ((n : Int) / 256), .int .u8 ((n : Int) % 256)] 5)) W.heap.size 5 (cells8 [byteOf (n : Int) 1, byteOf (n : Int) 0]) := by
    have := RowIs.new W 5 (cells8 [byteOf (n : Int) 1, byteOf (n : Int) 0])
    rwa [show (cells8 [byteOf (n : Int) 1, byteOf (n : Int) 0]).toArray = #[.int .u8 ((n : Int) / 256), .int .u8 ((n : Int) % 256)] from by simp only [cells8, List.map_cons, List.map_nil, cell8, e1, e0]] at this
  exact run_convert_bytes_back (P := Try.prog) _ 56 9 5 ⟨W.heap.size, 0, none⟩ 2 [byteOf (n : Int) 1, byteOf (n : Int) 0] Try.underlying56 Try.underlying5 Try.underlying9 (by
    intro j hj
    rw [show (⟨W.heap.size, 0, none⟩ : Addr).add j = ⟨W.heap.size, j, none⟩ from by simp [Addr.add]; exact fun h => h.symm]
    exact hrow.cellAt (cells8_at _ j hj))
/-- The Reader of this law: it has told all that came. -/
def Rdy (K : FrameKeeps) (p : Nat) (d : Bool) (w : World) : Prop := ∃ bl, K.Rd w bl p ⟨#[]⟩ d

set_option maxRecDepth 100000 in
set_option maxHeartbeats 4000000 in
theorem frameDead_of (K : FrameKeeps) (oa : Option Addr) (n c : Nat) (L : Nat → List UInt8) (s : Int) (ob : Option Addr) (m c2 : Nat) (M : Nat → List UInt8) (w : World) (hn : n ≤ maxLen) (hm : m ≤ maxLen) (hs : StrsAt w oa n L) (ht : StrsAt w ob m M) :
    Calls Try.prog 6 #[.slice oa n c, .int .i64 s, .slice ob m c2] w fun e w' => e = .returned (.bool true) ∧ Below w.heap.size w w' := by
  have PA : Hid _ := alive9_of K
  unfold maxLen at hn hm
  cases d0 : decide (10 < (n : Int)) <;> cases d1 : decide (10 < (m : Int))
  case false.false =>
    have hn' : n ≤ 10 := by simp at d0; omega
    have hm' : m ≤ 10 := by simp at d1; omega
    clear hn hm
    have S0 : Hid (StrsAt w oa n L) := hs
    have T0 : Hid (StrsAt w ob m M) := ht
    clear hs ht
    go_enter Try.func6, Try.ntmps6
    go_wp2_with fail
    with_reducible refine (PA.out _).mono ?_
    rintro e w1 ⟨rfl, b1⟩
    have hR := K.new w1
    have bN := reader_new w1
    go_wp2_with fail
    generalize w1.alloc (.cells #[.string ⟨#[]⟩, .bool false, .int .i64 0] 31) = w2 at *
    have hT : Rdy K w1.heap.size false w2 := ⟨_, hR⟩
    have hle1 := b1.size
    clear hR
    go_loopw [8] (fun i wr => ∃ k : Nat, k ≤ n ∧ i = .int .i64 k ∧ Rdy K w1.heap.size false wr ∧ Below w1.heap.size w1 wr) (fun i _ => n - (intOf i).toNat)
    case atStart => exact ⟨0, by omega, rfl, hT, bN⟩
    case round =>
      clear hT bN
      obtain ⟨k, hk, rfl, hT, B⟩ := hrel
      by_cases hlt : k < n
      · have hbel := b1.trans (B.mono hle1)
        obtain ⟨bb, oo, rfl, hc⟩ := S0.out.later hbel k hlt
        have HL : Hid (∀ w', Below w1.heap.size w1 w' → w'.cell? ⟨bb, oo + k, none⟩ = some (.string (str (L k)))) := by
          intro w' hb
          obtain ⟨b', o', h1, h2⟩ := S0.out.later (b1.trans (hb.mono hle1)) k hlt
          simp only [Option.some.injEq, Addr.mk.injEq] at h1
          obtain ⟨rfl, rfl, _⟩ := h1
          exact h2
        have dlt : decide ((k : Int) < (n : Int)) = true := by simp; omega
        have dlt2 : (k : Int) < (n : Int) := by omega
        generalize str (L k) = S at *
        by_cases hz1 : S.size < 1
        · have d3 : decide ((S.size : Int) < 1) = true := by simp; omega
          go_wp2
          go_ret
          exact ⟨rfl, hbel⟩
        have d3 : decide ((S.size : Int) < 1) = false := by simp; omega
        by_cases hz2 : 500 < S.size
        · have d4 : decide (500 < (S.size : Int)) = true := by simp; omega
          go_wp2
          go_ret
          exact ⟨rfl, hbel⟩
        have d4 : decide (500 < (S.size : Int)) = false := by simp; omega
        obtain ⟨bl, hR⟩ := hT
        have p1 := fun w => K.put S w (by omega)
        rw [(putFS_yes S (by omega) (by omega)).1] at p1
        have P1 : Hid _ := p1
        have hFs := (putFS_yes S (by omega) (by omega)).2.2
        have P2 : Hid (∀ w, K.Rd w bl w1.heap.size ⟨#[]⟩ false → Calls Try.prog 10 #[.pointer (some ⟨w1.heap.size, 0, none⟩), .string (putFS S)] w (Fed K w bl w1.heap.size [S] ⟨#[]⟩ false)) := fun w h => by
          have := K.live w bl w1.heap.size ⟨#[]⟩ (putFS S) h (by rw [show (⟨#[]⟩ : ByteArray).size = 0 from rfl]; omega)
          rwa [none_cat, (fr_put1 S (by omega) (by omega)).1, (fr_put1 S (by omega) (by omega)).2.1, (fr_put1 S (by omega) (by omega)).2.2] at this
        have e1 := str_beq_self S
        clear p1
        generalize putFS S = F at *
        go_wp2_with fail
        with_reducible refine (P1.out _).mono ?_
        rintro e w3 ⟨rfl, b3⟩
        replace hR := K.below hR b3
        have B3 := B.trans (b3.mono B.size)
        go_wp2_with fail
        with_reducible refine (P2.out _ hR).mono ?_
        rintro e w4 ⟨v1, bl1, hv1, rfl, hR1, hb1, t1⟩
        have B4 := B3.trans (K.bel hR t1 (Nat.le_refl _) B3.size)
        obtain ⟨g, c1, rfl, hg1, hg2⟩ := hv1.form (by simp)
        have HC : Hid (∀ W, Touch bl1 w4 W → W.cell? ⟨g, 0, none⟩ = some (.string S) ∧ W.cell? ⟨bb, oo + k, none⟩ = some (.string S)) := by
          intro W hW
          have o1 : OwnT W _ _ _ := own_touch hv1 hW (fun j hj hS => (hb1 j hS).2 hj)
          exact ⟨o1.cell rfl 0 (by simp), HL.out W (B4.trans (K.bel hR1 hW (Nat.le_refl _) B4.size))⟩
        have bw : Touch bl1 w4 w4.drew := (Touch.refl _ _).drew
        have hRd := K.below hR1 ((Below.refl _ _).drew : Below w4.heap.size w4 w4.drew)
        rw [show ([S] : List ByteArray).length = 1 from rfl]
        clear hc b3 t1 hv1 hb1
        go_wp2_with fail
        go_region_held3 (fun w' => w'.cell? ⟨g, 0, none⟩ = some (.string S) ∧ w'.cell? ⟨bb, oo + k, none⟩ = some (.string S)) (exact HC.out _ bw) (first | (go_at_call 12; (with_reducible refine (K.dead _ bl1 w1.heap.size _ _ hRd).mono ?_); rintro e w5 ⟨rfl, hR5, t5⟩; replace bw := bw.trans t5))
        all_goals
          go_wp2
          go_roundw
          case rel => exact ⟨k + 1, by omega, by go_num, ⟨bl1, hR5⟩, B4.trans (K.bel hR1 bw (Nat.le_refl _) B4.size)⟩
          case measure => simp [intOf]; omega
      · have dlt : decide ((k : Int) < (n : Int)) = false := by simp; omega
        obtain ⟨bl, hR⟩ := hT
        have a1 := i64_and1 s
        by_cases hodd : s % 2 = 1
        · rw [hodd] at a1
          obtain ⟨N, hN⟩ : ∃ N : Nat, 2201 + s / 2 % 1024 = (N : Int) := Int.eq_ofNat_of_zero_le (by omega)
          have hN1 : 2200 < N := by omega
          have hN2 : N < 65536 := by omega
          have a3 : wrap64 (2201 + bits .and .i64 (s / 2) 1023) = (N : Int) := by
            rw [i64_and1023, hN]
            exact IntWalk.wrap64_in _ ⟨by omega, by omega⟩
          have hcv := two9_conv wr N hN2
          clear hN hodd
          replace hR := K.below hR ((Below.refl wr.heap.size wr).alloc (Nat.le_refl _) (.cells #[.int .u8 ((N : Int) / 256), .int .u8 ((N : Int) % 256)] 5))
          have B3 : Below w1.heap.size w1 (wr.alloc (.cells #[.int .u8 ((N : Int) / 256), .int .u8 ((N : Int) % 256)] 5)) := B.alloc B.size _
          have P3 : Hid (∀ w, K.Rd w bl w1.heap.size ⟨#[]⟩ false → Calls Try.prog 10 #[.pointer (some ⟨w1.heap.size, 0, none⟩), .string (two9 N)] w (Fed K w bl w1.heap.size [] ⟨#[]⟩ true)) := fun w h => by
            have := K.live w bl w1.heap.size ⟨#[]⟩ (two9 N) h (by rw [show (⟨#[]⟩ : ByteArray).size = 0 from rfl, two9, str_size]; simp)
            rwa [none_cat, two9, (fr_two N (Or.inr hN1) hN2).1, (fr_two N (Or.inr hN1) hN2).2.1, (fr_two N (Or.inr hN1) hN2).2.2] at this
          generalize two9 N = F at *
          go_wp2_with fail
          generalize wr.alloc (.cells #[.int .u8 ((N : Int) / 256), .int .u8 ((N : Int) % 256)] 5) = w3 at *
          with_reducible refine (P3.out _ hR).mono ?_
          rintro e w4 ⟨v1, bl1, hv1, rfl, hR1, hb1, t1⟩
          have B4 := B3.trans (K.bel hR t1 (Nat.le_refl _) B3.size)
          obtain ⟨x1, c1, rfl⟩ := hv1.shape
          clear hv1 hb1 t1 hR B3 hcv P3
          go_wp2_with fail
          with_reducible refine (K.dead _ bl1 w1.heap.size _ _ hR1).mono ?_
          rintro e w5 ⟨rfl, hR5, t5⟩
          have B5 := B4.trans (K.bel hR1 t5 (Nat.le_refl _) B4.size)
          have hT : Rdy K w1.heap.size true w5 := ⟨_, hR5⟩
          clear t5 hR1 hR5 B4
          go_wp2_with fail
          go_loopw [16] (fun i wr => ∃ k : Nat, k ≤ m ∧ i = .int .i64 k ∧ Rdy K w1.heap.size true wr ∧ Below w1.heap.size w1 wr) (fun i _ => m - (intOf i).toNat)
          case atStart => exact ⟨0, by omega, rfl, hT, B5⟩
          case round =>
            clear hT B5 hlt B dlt
            obtain ⟨k2, hk2, rfl, hT, B⟩ := hrel
            have hbel := b1.trans (B.mono hle1)
            by_cases hlt : k2 < m
            · obtain ⟨bb, oo, rfl, hc⟩ := T0.out.later hbel k2 hlt
              have dlt : decide ((k2 : Int) < (m : Int)) = true := by simp; omega
              have dlt2 : (k2 : Int) < (m : Int) := by omega
              generalize str (M k2) = S at *
              obtain ⟨bl2, hR⟩ := hT
              go_wp2_with fail
              with_reducible refine (K.gone _ bl2 w1.heap.size S hR).mono ?_
              rintro e w6 ⟨v2, bl3, hv2, rfl, hR2, hb2, t2⟩
              have B6 := B.trans (K.bel hR t2 (Nat.le_refl _) B.size)
              obtain ⟨x2, c3, rfl⟩ := hv2.shape
              clear hv2 hb2 t2 hR B hc hbel
              go_wp2_with fail
              with_reducible refine (K.dead _ bl3 w1.heap.size _ _ hR2).mono ?_
              rintro e w7 ⟨rfl, hR7, t7⟩
              have B7 := B6.trans (K.bel hR2 t7 (Nat.le_refl _) B6.size)
              clear t7 hR2 B6
              go_wp2_with fail
              with_reducible refine (K.waits _ bl3 w1.heap.size _ _ hR7).mono ?_
              rintro e w8 ⟨rfl, hR8, t8⟩
              have B8 := B7.trans (K.bel hR7 t8 (Nat.le_refl _) B7.size)
              clear t8 hR7 B7
              go_wp2
              go_roundw
              case rel => exact ⟨k2 + 1, by omega, by go_num, ⟨bl3, hR8⟩, B8⟩
              case measure => simp [intOf]; omega
            · have dlt : decide ((k2 : Int) < (m : Int)) = false := by simp; omega
              clear hT
              go_wp2
              go_ret
              exact ⟨rfl, hbel⟩
        · have a2 : s % 2 = 0 := by omega
          rw [a2] at a1
          have hcv := two9_conv wr 0 (by decide)
          rw [show ((0 : Nat) : Int) / 256 = 0 from rfl, show ((0 : Nat) : Int) % 256 = 0 from rfl] at hcv
          clear hodd a2
          replace hR := K.below hR ((Below.refl wr.heap.size wr).alloc (Nat.le_refl _) (.cells #[.int .u8 0, .int .u8 0] 5))
          have B3 : Below w1.heap.size w1 (wr.alloc (.cells #[.int .u8 0, .int .u8 0] 5)) := B.alloc B.size _
          have P3 : Hid (∀ w, K.Rd w bl w1.heap.size ⟨#[]⟩ false → Calls Try.prog 10 #[.pointer (some ⟨w1.heap.size, 0, none⟩), .string (two9 0)] w (Fed K w bl w1.heap.size [] ⟨#[]⟩ true)) := fun w h => by
            have := K.live w bl w1.heap.size ⟨#[]⟩ (two9 0) h (by rw [show (⟨#[]⟩ : ByteArray).size = 0 from rfl, two9, str_size]; simp)
            rwa [none_cat, two9, (fr_two 0 (Or.inl rfl) (by decide)).1, (fr_two 0 (Or.inl rfl) (by decide)).2.1, (fr_two 0 (Or.inl rfl) (by decide)).2.2] at this
          generalize two9 0 = F at *
          go_wp2_with fail
          generalize wr.alloc (.cells #[.int .u8 0, .int .u8 0] 5) = w3 at *
          with_reducible refine (P3.out _ hR).mono ?_
          rintro e w4 ⟨v1, bl1, hv1, rfl, hR1, hb1, t1⟩
          have B4 := B3.trans (K.bel hR t1 (Nat.le_refl _) B3.size)
          obtain ⟨x1, c1, rfl⟩ := hv1.shape
          clear hv1 hb1 t1 hR B3 hcv P3
          go_wp2_with fail
          with_reducible refine (K.dead _ bl1 w1.heap.size _ _ hR1).mono ?_
          rintro e w5 ⟨rfl, hR5, t5⟩
          have B5 := B4.trans (K.bel hR1 t5 (Nat.le_refl _) B4.size)
          have hT : Rdy K w1.heap.size true w5 := ⟨_, hR5⟩
          clear t5 hR1 hR5 B4
          go_wp2_with fail
          go_loopw [16] (fun i wr => ∃ k : Nat, k ≤ m ∧ i = .int .i64 k ∧ Rdy K w1.heap.size true wr ∧ Below w1.heap.size w1 wr) (fun i _ => m - (intOf i).toNat)
          case atStart => exact ⟨0, by omega, rfl, hT, B5⟩
          case round =>
            clear hT B5 hlt B dlt
            obtain ⟨k2, hk2, rfl, hT, B⟩ := hrel
            have hbel := b1.trans (B.mono hle1)
            by_cases hlt : k2 < m
            · obtain ⟨bb, oo, rfl, hc⟩ := T0.out.later hbel k2 hlt
              have dlt : decide ((k2 : Int) < (m : Int)) = true := by simp; omega
              have dlt2 : (k2 : Int) < (m : Int) := by omega
              generalize str (M k2) = S at *
              obtain ⟨bl2, hR⟩ := hT
              go_wp2_with fail
              with_reducible refine (K.gone _ bl2 w1.heap.size S hR).mono ?_
              rintro e w6 ⟨v2, bl3, hv2, rfl, hR2, hb2, t2⟩
              have B6 := B.trans (K.bel hR t2 (Nat.le_refl _) B.size)
              obtain ⟨x2, c3, rfl⟩ := hv2.shape
              clear hv2 hb2 t2 hR B hc hbel
              go_wp2_with fail
              with_reducible refine (K.dead _ bl3 w1.heap.size _ _ hR2).mono ?_
              rintro e w7 ⟨rfl, hR7, t7⟩
              have B7 := B6.trans (K.bel hR2 t7 (Nat.le_refl _) B6.size)
              clear t7 hR2 B6
              go_wp2_with fail
              with_reducible refine (K.waits _ bl3 w1.heap.size _ _ hR7).mono ?_
              rintro e w8 ⟨rfl, hR8, t8⟩
              have B8 := B7.trans (K.bel hR7 t8 (Nat.le_refl _) B7.size)
              clear t8 hR7 B7
              go_wp2
              go_roundw
              case rel => exact ⟨k2 + 1, by omega, by go_num, ⟨bl3, hR8⟩, B8⟩
              case measure => simp [intOf]; omega
            · have dlt : decide ((k2 : Int) < (m : Int)) = false := by simp; omega
              clear hT
              go_wp2
              go_ret
              exact ⟨rfl, hbel⟩
  all_goals
    go_enter Try.func6, Try.ntmps6
    go_wp2_with fail
    with_reducible refine (PA.out _).mono ?_
    rintro e w1 ⟨rfl, b1⟩
    go_wp2
    go_ret
    exact ⟨rfl, b1⟩

end Go.Proofs.Ytkjdklicgbjkpaa
