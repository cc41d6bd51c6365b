/-
  The contract of package onetime's Tag.
-/
import Derived.Test.YtjccdfnhcifgiaaPoly11
namespace Go.Proofs.Ytjccdfnhcifgiaa
open Go.RowKit
set_option linter.unusedVariables false
set_option maxRecDepth 100000
set_option linter.unusedSimpArgs false

set_option maxRecDepth 100000 in
set_option maxHeartbeats 400000 in
theorem onetime_tag_yes (key b : ByteArray) (w : World) (hk : key.size = 32) (hb : b.size ≤ 4611686018427387904) :
    Calls Try.prog 11 #[.string key, .string b] w fun e w' => e = .returned (.tuple #[.string (tagS key b), .bool true]) ∧ Below w.heap.size w w' := by
  have hcl := onetime_clamp_yes key w hk
  have hcs := clampS_size key
  have hrr := nuL_spec (clampS key) (by rw [show (clampS key).data.toList = clampL key.data.toList from by simp [clampS, str]]; exact clamp_lt _)
  rw [show (clampS key).data.toList = clampL key.data.toList from by simp [clampS, str]] at hrr
  have HR : Hid (∀ w : World, Calls Try.prog 18 #[.string (clampS key)] w fun e w' => e = .returned (.agg (cells64 (nuL (clampS key) 5)).toArray) ∧ Below w.heap.size w w') := fun w => onetime_numberOf (clampS key) w (by omega)
  generalize clampS key = ck at *
  generalize nuL ck 5 = rr at *
  have hrl : rr.length = 5 := hrr.1.1
  have hrb : allB rr 67108864 := hrr.1.2
  have HRV : Hid (valN rr = leV (clampL key.data.toList)) := hrr.2
  clear hrr
  have hlr : (cells64 rr).length = 5 := by rw [cells64_len, hrl]
  have hor := all_oneCell_toArray (cells64_one rr)
  have hz5 : (cells64 z5).length = 5 := rfl
  have hrs : (Try.prog.info? 37).map (·.size) = some (cells64 rr).toArray.size := by rw [size5]; simp [hlr]
  go_enter Try.func11, Try.ntmps11
  go_wp2_with fail
  refine hcl.mono ?_
  rintro e w1 ⟨rfl, b1⟩
  go_wp2_with fail
  refine (HR.out _).mono ?_
  rintro e w2 ⟨rfl, b2⟩
  have b3 : Below w.heap.size w w2 := b1.trans (b2.mono b1.size)
  clear b1 b2 hcl HR
  obtain ⟨g, hg⟩ : ∃ g, g = w2.heap.size := ⟨_, rfl⟩
  have HG : Hid (w2.heap.size = g) := hg.symm
  have hwg : w.heap.size ≤ g := by rw [hg]; exact b3.size
  obtain ⟨w3, hw3⟩ : ∃ w3, w3 = w2.alloc (.cells (cells64 z5).toArray 37) := ⟨_, rfl⟩
  have t3 : RowIs w3 g 37 (cells64 z5) := by
    have := RowIs.new w2 37 (cells64 z5)
    rw [← hw3, ← hg] at this
    exact this
  have b4 : Below w.heap.size w w3 := hw3 ▸ b3.alloc b3.size _
  have s3 : w3.heap.size = g + 1 := by rw [hw3, hg]; simp
  have HA : Hid (w2.alloc (.cells (cells64 z5).toArray 37) = w3) := hw3.symm
  clear hw3 hg b3
  have HT : Hid (w3.there g 0 (cells64 rr).toArray.size) := t3.there (by simp [hlr, hz5])
  obtain ⟨w4, hw4⟩ : ∃ w4, w4 = w3.setCells g 0 (cells64 rr) := ⟨_, rfl⟩
  have t4 : RowIs w4 g 37 (cells64 rr) := hw4 ▸ t3.putAll (by rw [hlr, hz5])
  have b5 : Below w.heap.size w w4 := hw4 ▸ bel_setCells b4 hwg 0 (cells64 rr)
  have s4 : w4.heap.size = g + 1 := by rw [hw4, size_setCells, s3]
  have HW4 : Hid (w3.setCells g 0 (cells64 rr).toArray.toList = w4) := hw4.symm
  clear hw4 t3 b4 s3
  obtain ⟨w5, hw5⟩ : ∃ w5, w5 = w4.alloc (.cells (cells64 z5).toArray 37) := ⟨_, rfl⟩
  have t5 : RowIs w5 (g + 1) 37 (cells64 z5) := by
    have := RowIs.new w4 37 (cells64 z5)
    rw [← hw5, s4] at this
    exact this
  have t6 : RowIs w5 g 37 (cells64 rr) := hw5 ▸ t4.alloc _
  have b6 : Below w.heap.size w w5 := hw5 ▸ b5.alloc (by omega) _
  have HA5 : Hid (w4.alloc (.cells (cells64 z5).toArray 37) = w5) := hw5.symm
  clear hw5 t4 b5
  go_wp2_with (first | (refine wpList_allocN rfl rfl run_alloc5 g HG.out ?_; rw [HA.out]) | (refine wpList_store_mid rfl 37 _ _ rfl g 0 (cells64 rr).toArray rfl rfl ?_ hrs hor ?_; exact HT.out; rw [HW4.out]) | (refine wpList_allocN rfl rfl run_alloc5 (g + 1) s4 ?_; rw [HA5.out]))
  clear HG HA HT HW4 HA5 hor hrs s4
  simp only [Act.put, List.setIfInBounds_toArray, List.set]
  go_loopw [1] (fun v wr => ∃ (k : Nat) (t : ByteArray) (s : List Int), v = .string t ∧ 16 * k < b.size + 16 ∧ t.size = b.size - 16 * k ∧ t.data.toList = b.data.toList.drop (16 * k) ∧ Settled s ∧ valN s % p130 = accTo (leV (clampL key.data.toList)) b.data.toList k ∧ RowIs wr g 37 (cells64 rr) ∧ RowIs wr (g + 1) 37 (cells64 s) ∧ Below w.heap.size w wr) (fun v _ => match v with | .string t => t.size | _ => 0)
  case atStart => exact ⟨0, b, z5, rfl, by omega, by omega, rfl, ⟨rfl, allB_z5 _ (by decide), by decide, by decide, by decide, by decide⟩, rfl, t6, t5, b6⟩
  case round =>
    clear t6 t5 b6
    obtain ⟨k, t, s, rfl, hk1, hts, htl, hs, hsv, q8, q9, hbel⟩ := hrel
    have hsl : s.length = 5 := hs.1
    by_cases hlt : 0 < t.size
    · obtain ⟨n, hn⟩ : ∃ n, n = min t.size 16 := ⟨_, rfl⟩
      obtain ⟨ps, hps⟩ : ∃ ps : ByteArray, ps = t.extract 0 n ++ ⟨#[1]⟩ := ⟨_, rfl⟩
      have hpl : ps.data.toList = ((b.data.toList.drop (16 * k)).take 16) ++ [1] := by
        rw [hps, one_snoc, extract_take, htl, hn]
        congr 1
        by_cases h : t.size ≤ 16
        · rw [Nat.min_eq_left h, List.take_of_length_le (by simp; omega), List.take_of_length_le (by simp; omega)]
        · rw [Nat.min_eq_right (by omega)]
      have hpz : ps.size ≤ 17 := by
        have e : ps.size = ps.data.toList.length := by simp
        rw [e, hpl]
        simp
        omega
      have hnu := nuL_spec ps (by rw [hpl]; exact leV_one _ (by simp; omega))
      have HN : Hid (∀ w : World, Calls Try.prog 18 #[.string ps] w fun e w' => e = .returned (.agg (cells64 (nuL ps 5)).toArray) ∧ Below w.heap.size w w') := fun w => onetime_numberOf ps w (by omega)
      generalize nuL ps 5 = nu at *
      have hnl := hnu.1.1
      have hnb := hnu.1.2
      have HK : Hid (∀ y : List Int, Settled y → valN y % p130 = (valN (addL s nu 5) * valN rr) % p130 → valN y % p130 = accTo (leV (clampL key.data.toList)) b.data.toList (k + 1)) := fun y _ hy => acc_step _ _ s nu rr y k hs hnl hsv (by rw [hnu.2, hpl]) HRV.out hy
      clear hnu hpl
      have HP : Hid (∀ w : World, Calls Try.prog 20 #[.agg (cells64 s).toArray, .agg (cells64 nu).toArray] w fun e w' => e = .returned (.agg (cells64 (addL s nu 5)).toArray) ∧ Below w.heap.size w w') := fun w => onetime_plus s nu w hsl hnl (allB_mono hs.2.1 (by decide)) (allB_mono hnb (by decide))
      have HTI : ∀ w : World, Calls Try.prog 19 #[.agg (cells64 (addL s nu 5)).toArray, .agg (cells64 rr).toArray] w fun e w' => (∃ y, (y.length = 5 ∧ Settled y ∧ valN y % p130 = accTo (leV (clampL key.data.toList)) b.data.toList (k + 1)) ∧ e = .returned (.agg (cells64 y).toArray)) ∧ Below w.heap.size w w' := fun w =>
        (onetime_times _ rr w (by rw [addL_len]; exact hsl) hrl (allB_mono (addL_bd hsl hnl hs.2.1 hnb) (by decide)) hrb).mono (by
          rintro e w' ⟨⟨y, hy1, hy2, rfl⟩, hb⟩
          exact ⟨⟨y, ⟨hy1.1, hy1, HK.out y hy1 hy2⟩, rfl⟩, hb⟩)
      generalize addL s nu 5 = u at *
      have hnt : n ≤ t.size := by omega
      have htz : t.size ≤ 4611686018427387904 := by omega
      have HRG : Hid (∀ (a : Act) (ops : Array Oper) (id : Nat) (Q : Exit → Act → World → Prop), kinds ops = tagList → tagOk ops = true → (∀ c a d v w, Q (.panic c) (a.put d v) w → Q (.panic c) a w) → a.tmps.size = 43 → a.eval (.tmp 1) = .string t → a.eval (.tmp 8) = .pointer (some ⟨g, 0, none⟩) → a.eval (.tmp 9) = .pointer (some ⟨g + 1, 0, none⟩) → a.eval (.tmp 10) = .int .i64 (n : Int) →
          (∀ y w', y.length = 5 → (Settled y ∧ valN y % p130 = accTo (leV (clampL key.data.toList)) b.data.toList (k + 1)) → RowIs w' g 37 (cells64 rr) → RowIs w' (g + 1) 37 (cells64 y) → Upon (g + 1) wr w' →
            Q .normal (((((((((a.put (some 27) (.string t)).put (some 28) (.int .i64 (n : Int))).put (some 29) (.string (t.extract 0 n))).put (some 30) (.string ps)).put (some 26) (.agg (cells64 s).toArray)).put (some 33) (.agg (cells64 rr).toArray)).put (some 31) (.agg (cells64 nu).toArray)).put (some 32) (.agg (cells64 u).toArray)).put (some 34) (.agg (cells64 y).toArray)) w') →
          (Code.region id ops true).wp Try.prog Q a wr) := fun a ops id Q h1 h2 h3 h4 h5 h6 h7 h8 h9 => tag_region h1 h2 h3 g n t ps s rr nu u wr a hsl hrl _ hnt htz hps.symm HN.out HP.out HTI q8 q9 h4 h5 h6 h7 h8 h9
      clear hsv hnb hs HN HP HTI HK hps
      by_cases h16 : 16 < t.size
      · obtain rfl : n = 16 := by omega
        clear hn
        have h16' : (16 : Int) < (t.size : Int) := by omega
        go_wp2_with fail
        refine HRG.out _ _ _ _ (by kernel_rfl) (by kernel_rfl) ?_ rfl rfl rfl rfl rfl ?_
        case refine_1 => exact fun _ _ d _ _ h => by cases d <;> exact h
        case refine_2 =>
          intro y w6 hy1 hy2 k1 k2 k3
          simp only [Act.put, List.setIfInBounds_toArray, List.set]
          go_wp2
          go_roundw
          case rel =>
            refine ⟨k + 1, t.extract 16 (b.size - 16 * k), y, rfl, by omega, ?_, ?_, hy2.1, hy2.2, k1, k2, hbel.trans (k3.below (by omega) hbel.size)⟩
            · rw [ByteArray.size_extract, hts]; omega
            · rw [← hts, extract_list t 16 (by omega), htl, List.drop_drop]
              congr 1
          case measure => simp; omega
      · obtain rfl : n = b.size - 16 * k := by omega
        clear hn
        have h16' : ¬ ((16 : Int) < ((b.size - 16 * k : Nat) : Int)) := by omega
        go_wp2_with fail
        refine HRG.out _ _ _ _ (by kernel_rfl) (by kernel_rfl) ?_ rfl rfl rfl rfl rfl ?_
        case refine_1 => exact fun _ _ d _ _ h => by cases d <;> exact h
        case refine_2 =>
          intro y w6 hy1 hy2 k1 k2 k3
          simp only [Act.put, List.setIfInBounds_toArray, List.set]
          go_wp2
          go_roundw
          case rel =>
            refine ⟨k + 1, ByteArray.empty, y, rfl, by omega, ?_, ?_, hy2.1, hy2.2, k1, k2, hbel.trans (k3.below (by omega) hbel.size)⟩
            · show 0 = _; omega
            · rw [List.drop_of_length_le (by simp; omega)]; rfl
          case measure => simp; omega
    · have hk2 : k = (b.data.toList.length + 15) / 16 := by
        have : b.data.toList.length = b.size := by simp
        omega
      have HTV : Hid (tagS key b = put16S (accTo (leV (clampL key.data.toList)) b.data.toList k + leV (key.data.toList.drop 16))) := by
        show _ = _
        rw [tagS, tagV, hk2]
      obtain ⟨s0, s1, s2, s3, s4, rfl⟩ := five_of s hsl
      have HLE : Hid (∀ w : World, Calls Try.prog 22 #[.agg #[.int .u64 s0, .int .u64 s1, .int .u64 s2, .int .u64 s3, .int .u64 s4]] w fun e w' => (∃ y, Fair y ∧ valN y = accTo (leV (clampL key.data.toList)) b.data.toList k ∧ e = .returned (.agg (cells64 y).toArray)) ∧ Below w.heap.size w w') := fun w => hsv ▸ onetime_least [s0, s1, s2, s3, s4] w hs
      have hkl : (key.extract 16 32).data.toList = key.data.toList.drop 16 := by
        have := extract_list key 16 (by omega)
        rwa [hk] at this
      have HLS : Hid (∀ (y : List Int) (w : World), Fair y → Calls Try.prog 21 #[.agg (cells64 y).toArray, .string (key.extract 16 32)] w fun e w' => e = .returned (.string (put16S (valN y + leV (key.data.toList.drop 16)))) ∧ Below w.heap.size w w') := fun y w hy => hkl ▸ onetime_lowSum y (key.extract 16 32) w hy (by simp; omega)
      have c0 : wr.cell? ⟨g + 1, 0, none⟩ = some (.int .u64 s0) := q9.cellAt rfl
      have c1 : wr.cell? ⟨g + 1, 1, none⟩ = some (.int .u64 s1) := q9.cellAt rfl
      have c2 : wr.cell? ⟨g + 1, 2, none⟩ = some (.int .u64 s2) := q9.cellAt rfl
      have c3 : wr.cell? ⟨g + 1, 3, none⟩ = some (.int .u64 s3) := q9.cellAt rfl
      have c4 : wr.cell? ⟨g + 1, 4, none⟩ = some (.int .u64 s4) := q9.cellAt rfl
      generalize accTo (leV (clampL key.data.toList)) b.data.toList k = A at *
      generalize leV (key.data.toList.drop 16) = U at *
      clear hkl hsv hs hk2 q8 htl hsl
      have hd0 : ¬ (0 < b.size - 16 * k) := by omega
      have hlt9 : g + 1 < wr.heap.size := q9.lt
      clear q9
      have HRO : Hid (∀ w' : World, Below wr.heap.size wr w' → w'.cell? ⟨g + 1, 0, none⟩ = some (.int .u64 s0) ∧ w'.cell? ⟨g + 1, 1, none⟩ = some (.int .u64 s1) ∧ w'.cell? ⟨g + 1, 2, none⟩ = some (.int .u64 s2) ∧ w'.cell? ⟨g + 1, 3, none⟩ = some (.int .u64 s3) ∧ w'.cell? ⟨g + 1, 4, none⟩ = some (.int .u64 s4)) := fun w' b => ⟨(b.cell (p := ⟨g + 1, 0, none⟩) hlt9).trans c0, (b.cell (p := ⟨g + 1, 1, none⟩) hlt9).trans c1, (b.cell (p := ⟨g + 1, 2, none⟩) hlt9).trans c2, (b.cell (p := ⟨g + 1, 3, none⟩) hlt9).trans c3, (b.cell (p := ⟨g + 1, 4, none⟩) hlt9).trans c4⟩
      go_wp2_with fail
      go_region_held3 (fun w' => w'.cell? ⟨g + 1, 0, none⟩ = some (.int .u64 s0) ∧ w'.cell? ⟨g + 1, 1, none⟩ = some (.int .u64 s1) ∧ w'.cell? ⟨g + 1, 2, none⟩ = some (.int .u64 s2) ∧ w'.cell? ⟨g + 1, 3, none⟩ = some (.int .u64 s3) ∧ w'.cell? ⟨g + 1, 4, none⟩ = some (.int .u64 s4)) (first | exact HRO.out _ (by with_reducible assumption) | go_keep) (first | (go_at_call 22; refine (HLE.out _).mono ?_; rintro e w6 ⟨⟨y, hy1, hy2, rfl⟩, b6⟩; have b6' : Below wr.heap.size wr w6 := ⟨b6.os, b6.tape, b6.output, b6.size, b6.block⟩) | (go_at_call 21; refine (HLS.out y _ hy1).mono ?_; rintro e w7 ⟨rfl, b7⟩; have b7' : Below wr.heap.size wr w7 := b6'.trans (b7.mono b6'.size)))
      go_wp2
      go_ret2
      exact ⟨by rw [HTV.out, ← hy2]; rfl, hbel.trans (b7'.mono hbel.size)⟩

end Go.Proofs.Ytjccdfnhcifgiaa
