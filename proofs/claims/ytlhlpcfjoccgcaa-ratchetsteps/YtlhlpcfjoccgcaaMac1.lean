/-
  The mac in plain words, and the contracts of package mac's masked, filled, Of and Check.
-/
import Derived.Test.YtlhlpcfjoccgcaaMac0
import Derived.Test.YtlhlpcfjoccgcaaRep0
import Derived.Test.YtlhlpcfjoccgcaaAlive2
import Derived.Test.YtlhlpcfjoccgcaaRefF
import Derived.RegionTactic
namespace Go.Proofs.Ytlhlpcfjoccgcaa
open Go.RowKit
set_option linter.unusedVariables false
set_option maxRecDepth 100000

def maskL (m : UInt8) (l : List UInt8) : List UInt8 := l.map (fun x => x ^^^ m)
/-- A key as it is, or its sum. -/
def keyL (l : List UInt8) : List UInt8 := if 64 < l.length then shaL l else l
def fillL (l : List UInt8) : List UInt8 := keyL l ++ List.replicate (64 - (keyL l).length) 0
def macL (k b : List UInt8) : List UInt8 := shaL (maskL 92 (fillL k) ++ shaL (maskL 54 (fillL k) ++ b))
def macS (k b : ByteArray) : ByteArray := str (macL k.data.toList b.data.toList)
theorem maskL_len (m : UInt8) (l : List UInt8) : (maskL m l).length = l.length := by simp [maskL]
theorem keyL_len (l : List UInt8) : (keyL l).length ≤ 64 := by
  unfold keyL
  split
  · rw [shaL_len]; decide
  · omega
theorem fillL_len (l : List UInt8) : (fillL l).length = 64 := by
  have := keyL_len l
  unfold fillL
  rw [List.length_append, List.length_replicate]; omega
theorem macL_len (k b : List UInt8) : (macL k b).length = 32 := shaL_len _
theorem macS_size (k b : ByteArray) : (macS k b).size = 32 := by rw [macS, str_size, macL_len]
theorem repeat_zero (c : Nat) : (⟨(Lib.repeatL (⟨#[0]⟩ : ByteArray).data.toList c).toArray⟩ : ByteArray) = str (List.replicate c 0) := by
  have := Lib.repeatL_replicate 0 1 c
  rw [Nat.mul_one] at this
  exact congrArg str this

theorem mask_at (l : List UInt8) (m : UInt8) (j : Nat) (h : j < l.length) : (maskL m l)[j]? = some (l[j] ^^^ m) := by
  simp [maskL, h]
theorem mask_bits (x m : UInt8) : bits BinOp.xor IntKind.u8 (x.toNat : Int) (m.toNat : Int) = ((x ^^^ m).toNat : Int) := by
  rw [u8_xor_nat _ _ x.toNat_lt m.toNat_lt, UInt8.toNat_xor]
/-- The first k bytes masked, those behind them as they were. -/
theorem mask_step {l0 l : List UInt8} {m : UInt8} {k : Nat} (hl : l = (maskL m l0).take k ++ l0.drop k) (hk : k < l0.length) :
    l[k]? = some l0[k] ∧ l.set k (l0[k] ^^^ m) = (maskL m l0).take (k + 1) ++ l0.drop (k + 1) := by
  have ht : ((maskL m l0).take k).length = k := by rw [List.length_take, maskL_len]; omega
  have hd : l0.drop k = l0[k] :: l0.drop (k + 1) := (List.drop_eq_getElem_cons hk)
  have e : l = (maskL m l0).take k ++ l0[k] :: l0.drop (k + 1) := by rw [hl, hd]
  have e2 : (maskL m l0).take (k + 1) = (maskL m l0).take k ++ [l0[k] ^^^ m] := by
    rw [List.take_add_one, mask_at l0 m k hk]; rfl
  refine ⟨?_, ?_⟩
  · rw [e, List.getElem?_append_right (by omega), ht]; simp
  · rw [e, List.set_append_right _ _ (by omega), ht, e2, Nat.sub_self, List.set_cons_zero, List.append_assoc]; rfl

set_option maxHeartbeats 1000000 in
theorem mac_masked (l0 : List UInt8) (m : UInt8) (w : World) (hl : l0.length ≤ 140737488355328) :
    Calls Try.prog 48 #[.string (str l0), .int .u8 (m.toNat : Int)] w fun e w' => e = .returned (.string (str (maskL m l0))) ∧ Below w.heap.size w w' := by
  have hcv := bytes_conv w (str l0)
  have hnew := bytes_new w (str l0)
  have hbel := bytes_below w (str l0)
  rw [show (str l0).data.toList = l0 from by simp [str]] at hnew
  rw [str_size] at hcv
  generalize Lib.bytesWorld w 5 (str l0) = w1 at *
  generalize grownCap w l0.length 0 5 = cap at *
  go_enter Try.func48, Try.ntmps48
  go_wp2
  go_loopw [11] (fun i wr => ∃ (k : Nat) (l : List UInt8), k ≤ l0.length ∧ i = .int .i64 k ∧ l = (maskL m l0).take k ++ l0.drop k ∧ BytesZ wr w.heap.size l ∧ Below w.heap.size w wr) (fun i _ => l0.length - (intOf i).toNat)
  case atStart => exact ⟨0, l0, Nat.zero_le _, rfl, by simp, hnew, hbel⟩
  case round =>
    clear hnew hbel
    obtain ⟨k, l, hk, rfl, hl1, hrow, hbel⟩ := hrel
    have hll : l.length = l0.length := by rw [hl1, List.length_append, List.length_take, List.length_drop, maskL_len]; omega
    by_cases hlt : k < l0.length
    · obtain ⟨h1, h2⟩ := mask_step hl1 hlt
      have hcell := hrow.cell k (by omega)
      have hfz := hrow.frozen k (by omega)
      rw [show l[k] = l0[k] from by rw [List.getElem?_eq_getElem (by omega)] at h1; exact Option.some.inj h1] at hcell
      have hx := mask_bits l0[k] m
      go_wp2
      go_roundw
      case rel => exact ⟨k + 1, l.set k (l0[k] ^^^ m), by omega, by go_num, h2, (by have := hrow.set k (by omega) (l0[k] ^^^ m); rw [UInt8.toNat_xor] at this; exact this), hbel.setCell (Nat.le_refl _) _⟩
      case measure => simp [intOf]; omega
    · have hkn : k = l0.length := by omega
      have hconv := hrow.string l0.length cap (by omega)
      have e : l.take l0.length = maskL m l0 := by
        rw [hl1, hkn, List.drop_length, List.append_nil, List.take_take, Nat.min_self, ← maskL_len m l0, List.take_length]
      rw [e] at hconv
      go_wp2
      go_ret
      exact ⟨rfl, hbel⟩

set_option maxHeartbeats 1000000 in
theorem mac_filled (l : List UInt8) (w : World) (hl : l.length ≤ 288230376151711744) :
    Calls Try.prog 46 #[.string (str l)] w fun e w' => e = .returned (.string (str (fillL l))) ∧ Below w.heap.size w w' := by
  have hkl := keyL_len l
  have hsz := str_size l
  have hrep : ∀ w1 : World, Calls Try.prog 27 #[.string ⟨#[0]⟩, .int .i64 (64 - ((keyL l).length : Int))] w1 fun e w' => e = .returned (.string (str (List.replicate (64 - (keyL l).length) 0))) ∧ Below w1.heap.size w1 w' := by
    intro w1
    have := Try.strings_Repeat ⟨#[0]⟩ (64 - (keyL l).length) w1 (by omega) (by show 1 * _ ≤ _; omega)
    rw [repeat_zero] at this
    rwa [show ((64 - (keyL l).length : Nat) : Int) = 64 - ((keyL l).length : Int) from by omega] at this
  have HF : Hid (fillL l = keyL l ++ List.replicate (64 - (keyL l).length) 0) := rfl
  have hcat := str_cat (keyL l) (List.replicate (64 - (keyL l).length) 0)
  rw [← HF.out] at hcat
  have hzs : (str (List.replicate (64 - (keyL l).length) 0)).size = 64 - (keyL l).length := by rw [str_size, List.length_replicate]
  clear HF
  generalize List.replicate (64 - (keyL l).length) (0 : UInt8) = zz at *
  by_cases h : 64 < l.length
  · have e : keyL l = shaL l := by unfold keyL; rw [if_pos h]
    have hss := shaS_str l
    have hs2 := str_size (keyL l)
    rw [← e] at hss
    generalize fillL l = fl at *
    generalize keyL l = kl at *
    clear e
    go_enter Try.func46, Try.ntmps46
    go_wp2_with (first | (go_at_call 47; refine (digest_sum _ _ (by omega)).mono ?_; rintro e w' ⟨rfl, b⟩; rw [hss]) | (go_at_call 27; refine (hrep _).mono ?_; rintro e w' ⟨rfl, b'⟩))
    go_ret
    exact ⟨rfl, bel_chain b b'⟩
  · have e : keyL l = l := by unfold keyL; rw [if_neg h]
    rw [e] at hrep hcat hzs
    generalize fillL l = fl at *
    clear e hkl
    go_enter Try.func46, Try.ntmps46
    go_wp2_with (first | (go_at_call 27; refine (hrep _).mono ?_; rintro e w' ⟨rfl, b'⟩))
    go_ret
    exact ⟨rfl, b'⟩

set_option maxHeartbeats 1000000 in
theorem mac_of (k b : ByteArray) (w : World) (hk : k.size ≤ 288230376151711744) (hb : b.size ≤ 140737488355328) :
    Calls Try.prog 35 #[.string k, .string b] w fun e w' => e = .returned (.string (macS k b)) ∧ Below w.heap.size w w' := by
  obtain ⟨k, rfl⟩ : ∃ l, k = str l := ⟨_, (str_back k).symm⟩
  obtain ⟨b, rfl⟩ : ∃ l, b = str l := ⟨_, (str_back b).symm⟩
  rw [str_size] at hk hb
  have hfl := fillL_len k
  have HM : Hid (macS (str k) (str b) = str (shaL (maskL 92 (fillL k) ++ shaL (maskL 54 (fillL k) ++ b)))) := rfl
  have hfill := mac_filled k w hk
  generalize fillL k = f at *
  have h1 := fun w => mac_masked f 54 w (by omega)
  have h2 := fun w => mac_masked f 92 w (by omega)
  have c1 := str_cat (maskL 54 f) b
  have s1 := shaS_str (maskL 54 f ++ b)
  have c2 := str_cat (maskL 92 f) (shaL (maskL 54 f ++ b))
  have s2 := shaS_str (maskL 92 f ++ shaL (maskL 54 f ++ b))
  have l1 := shaL_len (maskL 54 f ++ b)
  have l2 := str_size (shaL (maskL 54 f ++ b))
  have l3 := str_size b
  have l4 := str_size (maskL 54 f)
  have l5 := str_size (maskL 92 f)
  have l6 := str_size (maskL 54 f ++ b)
  have l7 := str_size (maskL 92 f ++ shaL (maskL 54 f ++ b))
  have m1 := maskL_len 54 f
  have m2 := maskL_len 92 f
  rw [List.length_append] at l6 l7
  rw [HM.out]
  clear HM
  generalize shaL (maskL 92 f ++ shaL (maskL 54 f ++ b)) = out at *
  generalize maskL 92 f ++ shaL (maskL 54 f ++ b) = x2 at *
  generalize shaL (maskL 54 f ++ b) = y1 at *
  generalize maskL 54 f ++ b = x1 at *
  generalize maskL 92 f = f92 at *
  generalize maskL 54 f = f54 at *
  go_enter Try.func35, Try.ntmps35
  go_wp2_with (first | (go_at_call 46; refine hfill.mono ?_; rintro e w1 ⟨rfl, b1⟩))
  refine (h1 _).mono ?_
  rintro e w2 ⟨rfl, b2⟩
  go_wp2_with fail
  refine (digest_sum _ _ (by omega)).mono ?_
  rintro e w3 ⟨rfl, b3⟩
  rw [s1]
  go_wp2_with fail
  refine (h2 _).mono ?_
  rintro e w4 ⟨rfl, b4⟩
  go_wp2_with fail
  refine (digest_sum _ _ (by omega)).mono ?_
  rintro e w5 ⟨rfl, b5⟩
  rw [s2]
  go_wp2_with fail
  go_ret
  exact ⟨rfl, bel_chain b1 (bel_chain b2 (bel_chain b3 (bel_chain b4 b5)))⟩

end Go.Proofs.Ytlhlpcfjoccgcaa
