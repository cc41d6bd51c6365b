/-
  The contracts of the reference's Turn, Nonce, Session.
-/
import Derived.Test.YtlhlpcfjoccgcaaRat0
import Derived.Test.YtlhlpcfjoccgcaaDer2
import Derived.Test.YtlhlpcfjoccgcaaOct3
namespace Go.Proofs.Ytlhlpcfjoccgcaa
open Go.RowKit
set_option linter.unusedVariables false
set_option maxRecDepth 100000
set_option linter.unusedSimpArgs false

theorem ref_turn (key : ByteArray) (n : Nat) (w : World) (hk : key.size ≤ 1000000) (hn : n ≤ 1000) : Calls Try.prog 11 #[.string key, .int .i64 n] w fun e w' => e = .returned (.string (turnR key n)) ∧ Below w.heap.size w w' := by
  have HK : Hid (∀ j, (turnR key j).size ≤ 1000000) := fun j => turnR_le key j 1000000 hk (by decide)
  have HS : Hid (∀ j, turnR key (j + 1) = expS (turnR key j) ratchetW 32) := fun j => rfl
  have H0 : Hid (turnR key 0 = key) := rfl
  clear hk
  go_enter Try.func11, Try.ntmps11
  go_wp2_with fail
  go_loopw [0, 5] (fun s i wr => ∃ k : Nat, k ≤ n ∧ i = .int .i64 k ∧ s = .string (turnR key k) ∧ Below w.heap.size w wr) (fun _ i _ => n - (intOf i).toNat)
  case atStart => exact ⟨0, Nat.zero_le _, rfl, by rw [H0.out], Below.refl _ _⟩
  case round =>
    obtain ⟨k, hk, rfl, rfl, hb⟩ := hrel
    by_cases hlt : k < n
    · have dlt : decide ((k : Int) < (n : Int)) = true := by simp; omega
      have PE := fun w => ref_expand (turnR key k) ratchetW 32 w (by have := HK.out k; omega) (by decide) (by decide)
      rw [← HS.out] at PE
      have P : Hid _ := PE
      clear PE
      unfold ratchetW at P
      generalize turnR key k = T at *
      go_wp2_with fail
      refine (P.out _).mono ?_
      rintro e w1 ⟨rfl, b1⟩
      clear P
      go_wp2
      go_roundw
      case rel => exact ⟨k + 1, by omega, by go_num, rfl, hb.trans (b1.mono hb.size)⟩
      case measure => simp [intOf]; omega
    · obtain rfl : k = n := by omega
      have dlt : decide ((k : Int) < (k : Int)) = false := by simp
      go_wp2
      go_ret
      exact ⟨rfl, hb⟩

theorem ref_nonce (seq : Int) (w : World) (h0 : 0 ≤ seq) (h1 : seq ≤ 9223372036854775807) : Calls Try.prog 12 #[.int .i64 seq] w fun e w' => e = .returned (.string (nonceR seq)) ∧ Below w.heap.size w w' := by
  rw [nonceR_yes h0]
  have P1 : Hid _ := fun w => ref_zeros 4 w (by decide)
  have P2 : Hid _ := fun w => ref_putBig seq 8 w h0 (by omega)
  have d1 : IntKind.u64.wrap seq = seq := by rw [IntKind.wrap_u64]; omega
  have hz : (str (List.replicate 4 0)).size = 4 := by rw [str_size]; rfl
  have hp := putBigS_size seq 8 (by decide)
  have hln : ¬ (9223372036854775807 < (str (List.replicate 4 0)).size + (putBigS seq 8).size) := by rw [hz, hp]; decide
  clear hz hp
  generalize str (List.replicate 4 0) = Z at *
  generalize putBigS seq 8 = N at *
  go_enter Try.func12, Try.ntmps12
  go_wp2_with fail
  refine (P1.out _).mono ?_
  rintro e w1 ⟨rfl, b1⟩
  go_wp2_with fail
  refine (P2.out _).mono ?_
  rintro e w2 ⟨rfl, b2⟩
  go_wp2
  go_ret
  exact ⟨rfl, bel_chain b1 b2⟩

theorem results_row12 {P : Program} {fn : Func} {p : Tmp} {ty : TypeId} (h : fn.results = #[.cell p ty]) (tmps : Array Value) (w : World) (g : Nat) (cs : List Value) (d : TypeDesc)
    (hp : tmps[p]?.getD undef = .pointer (some ⟨g, 0, none⟩)) (hc : w.rangeAt g 0 cs) (hu : P.underlying ty = some d) (hd : d.isRow = true) (hi : (P.info? ty).map (·.size) = some cs.length) :
    (results fn tmps).run P w = .ok (.agg cs.toArray) w := by
  simp [results, h, hp, asAddr, run_loadVar_mid w g 0 ty cs d hc hu hd hi]
set_option maxHeartbeats 1000000 in
theorem ref_session (secret salt : ByteArray) (w : World) (h1 : secret.size ≤ 1000000) (h2 : salt.size ≤ 1000000) : Calls Try.prog 17 #[.string secret, .string salt] w fun e w' => e = .returned (.agg #[.string (keyS secret salt upW), .string (keyS secret salt downW)]) ∧ Below w.heap.size w w' := by
  unfold upW downW
  have P1 : Hid _ := fun w => ref_key secret salt ⟨#[117, 112]⟩ w (by omega) (by omega) (by decide)
  have P2 : Hid _ := fun w => ref_key secret salt ⟨#[100, 111, 119, 110]⟩ w (by omega) (by omega) (by decide)
  generalize keyS secret salt ⟨#[117, 112]⟩ = U at *
  generalize keyS secret salt ⟨#[100, 111, 119, 110]⟩ = D at *
  have b0 : Below w.heap.size w (w.alloc (.cells #[.string ⟨#[]⟩, .string ⟨#[]⟩] 30)) := (Below.refl _ _).alloc (Nat.le_refl _) _
  have R0 := RowIs.new w 30 [.string ⟨#[]⟩, .string ⟨#[]⟩]
  go_enter Try.func17, Try.ntmps17
  go_wp2_with fail
  generalize w.alloc (.cells #[.string ⟨#[]⟩, .string ⟨#[]⟩] 30) = w0 at *
  with_reducible refine (P1.out _).mono ?_
  rintro e w1 ⟨rfl, b1⟩
  have R1 := RowIs.below R0 b1 (RowIs.lt R0)
  replace b0 := bel_chain b0 b1
  clear b1 R0
  go_wp2_with fail
  with_reducible refine (P2.out _).mono ?_
  rintro e w2 ⟨rfl, b2⟩
  have R2 := RowIs.below R1 b2 (RowIs.lt R1)
  replace b0 := bel_chain b0 b2
  clear b2 R1
  have r0 : w2.cell? ⟨w.heap.size, 0, none⟩ = some (.string ⟨#[]⟩) := RowIs.cellAt R2 rfl
  have r1 : w2.cell? ⟨w.heap.size, 1, none⟩ = some (.string ⟨#[]⟩) := RowIs.cellAt R2 rfl
  have t0 : w2.frozen? ⟨w.heap.size, 0, none⟩ = false := RowIs.frozen R2 0
  have t1 : w2.frozen? ⟨w.heap.size, 1, none⟩ = false := RowIs.frozen R2 1
  have RH : Hid _ := R2
  have BH : Hid _ := b0
  clear R2 b0
  go_wp2
  have RF : RowIs ((w2.setCell ⟨w.heap.size, 0, none⟩ (.string U)).setCell ⟨w.heap.size, 1, none⟩ (.string D)) w.heap.size 30 [.string U, .string D] := (RowIs.set RH.out 0 _).set 1 _
  exact bodyPost_ret (v := .agg ([.string U, .string D] : List Value).toArray) (results_row12 rfl _ _ w.heap.size [.string U, .string D] _ (by simp) (RF.range (by simp)) Try.underlying30 rfl (by kernel_rfl)) rfl ⟨rfl, (BH.out.setCell (Nat.le_refl _) _).setCell (Nat.le_refl _) _⟩

end Go.Proofs.Ytlhlpcfjoccgcaa
