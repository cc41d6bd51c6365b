/-
  The contract of the reference's Mac.
-/
import Derived.Test.YtlhlpcfjoccgcaaMac1
import Derived.Test.YtlhlpcfjoccgcaaOct12
import Derived.Test.YtlhlpcfjoccgcaaZer0
namespace Go.Proofs.Ytlhlpcfjoccgcaa
open Go.RowKit
set_option linter.unusedVariables false
set_option maxRecDepth 100000

theorem zeroRow_is (n : Nat) : zeroRow n = .cells (cells8 (List.replicate n 0)).toArray 5 := by
  unfold zeroRow
  congr 1
  apply Array.toList_inj.1
  exact made8 n
theorem row_string {w : World} {g n : Nat} {l : List UInt8} (h : RowIs w g 5 (cells8 l)) (hl : l.length = n) :
    (convert 37 9 (.slice (some ⟨g, 0, none⟩) n n)).run Try.prog w = .ok (.string (str l)) w := by
  subst hl
  refine run_convert_bytes_back w _ _ 5 ⟨g, 0, none⟩ _ l Try.underlying37 Try.underlying5 Try.underlying9 ?_
  intro j hj
  rw [show (⟨g, 0, none⟩ : Addr).add j = ⟨g, j, none⟩ from by simp [Addr.add]; exact fun h => h.symm, h.cell, cells8_at l j hj]

theorem two_rows (W : World) : RowIs ((W.alloc (zeroRow 64)).alloc (zeroRow 64)).drew W.heap.size 5 (cells8 (List.replicate 64 0)) ∧ RowIs ((W.alloc (zeroRow 64)).alloc (zeroRow 64)).drew (W.heap.size + 1) 5 (cells8 (List.replicate 64 0)) ∧ Below W.heap.size W ((W.alloc (zeroRow 64)).alloc (zeroRow 64)).drew := by
  rw [zeroRow_is]
  refine ⟨((RowIs.new W _ _).alloc _).drew, ?_, (((Below.refl _ _).alloc (Nat.le_refl _) _).alloc (by simp) _).drew⟩
  have := RowIs.new (W.alloc (.cells (cells8 (List.replicate 64 0)).toArray 5)) 5 (cells8 (List.replicate 64 0))
  rw [show (W.alloc (.cells (cells8 (List.replicate 64 0)).toArray 5)).heap.size = W.heap.size + 1 from by simp] at this
  exact this.drew
/-- The first j bytes masked, zeros behind them. -/
def maskTo (m : UInt8) (f : List UInt8) (j : Nat) : List UInt8 := (maskL m f).take j ++ List.replicate (64 - j) 0
theorem maskTo_len (m : UInt8) (f : List UInt8) (j : Nat) (hf : f.length = 64) (hj : j ≤ 64) : (maskTo m f j).length = 64 := by
  unfold maskTo
  rw [List.length_append, List.length_take, maskL_len, List.length_replicate]; omega
theorem maskTo_zero (m : UInt8) (f : List UInt8) : maskTo m f 0 = List.replicate 64 0 := by simp [maskTo]
theorem maskTo_all (m : UInt8) (f : List UInt8) (hf : f.length = 64) : maskTo m f 64 = maskL m f := by
  unfold maskTo
  rw [List.take_of_length_le (by rw [maskL_len]; omega)]; simp
theorem maskTo_step (m : UInt8) (f : List UInt8) (j : Nat) (x : UInt8) (hf : f.length = 64) (hj : j < 64) (hx : f[j]? = some x) : (maskTo m f j).set j (x ^^^ m) = maskTo m f (j + 1) := by
  have hj' : j < f.length := by omega
  rw [List.getElem?_eq_getElem hj'] at hx
  have hx' := Option.some.inj hx
  have ht : ((maskL m f).take j).length = j := by rw [List.length_take, maskL_len]; omega
  unfold maskTo
  rw [List.set_append_right _ _ (by omega), ht, Nat.sub_self, show 64 - j = (64 - (j + 1)) + 1 from by omega, List.replicate_succ, List.set_cons_zero, List.take_add_one, mask_at f m j hj', hx', List.append_assoc]
  rfl
theorem row_mask {w : World} {g j : Nat} {m : UInt8} {f : List UInt8} {x : UInt8} (h : RowIs w g 5 (cells8 (maskTo m f j))) (hf : f.length = 64) (hj : j < 64) (hx : f[j]? = some x) :
    RowIs (w.setCell ⟨g, j, none⟩ (.int .u8 ((x.toNat ^^^ m.toNat : Nat) : Int))) g 5 (cells8 (maskTo m f (j + 1))) := by
  have := h.set j (cell8 (x ^^^ m))
  rw [cells8_set, maskTo_step m f j x hf hj hx, cell8, UInt8.toNat_xor] at this
  exact this
theorem row_mask_cell {w : World} {g j : Nat} {m : UInt8} {f : List UInt8} (h : RowIs w g 5 (cells8 (maskTo m f j))) (hf : f.length = 64) (hj : j < 64) :
    ∃ v, w.cell? ⟨g, j, none⟩ = some v := by
  have hl := maskTo_len m f j hf (by omega)
  exact ⟨_, h.cellAt (cells8_at _ j (by omega))⟩

set_option maxHeartbeats 4000000 in
theorem ref_mac_list (k b : List UInt8) (w : World) (hk : k.length ≤ 288230376151711744) (hb : b.length ≤ 140737488355328) :
    Calls Try.prog 34 #[.string (str k), .string (str b)] w fun e w' => e = .returned (.string (str (macL k b))) ∧ Below w.heap.size w w' := by
  have hkl := keyL_len k
  have hsz := str_size k
  have hrep : ∀ w1 : World, Calls Try.prog 24 #[.int .i64 (64 - ((keyL k).length : Int))] w1 fun e w' => e = .returned (.string (str (List.replicate (64 - (keyL k).length) 0))) ∧ Below w1.heap.size w1 w' := by
    intro w1
    have := ref_zeros (64 - (keyL k).length) w1 (by omega)
    rwa [show ((64 - (keyL k).length : Nat) : Int) = 64 - ((keyL k).length : Int) from by omega] at this
  have hcat := str_cat (keyL k) (List.replicate (64 - (keyL k).length) 0)
  have HF : fillL k = keyL k ++ List.replicate (64 - (keyL k).length) 0 := rfl
  rw [← HF] at hcat
  have hzs : (str (List.replicate (64 - (keyL k).length) 0)).size = 64 - (keyL k).length := by rw [str_size, List.length_replicate]
  have hfl := fillL_len k
  have HM : Hid (macL k b = shaL (maskL 92 (fillL k) ++ shaL (maskL 54 (fillL k) ++ b))) := rfl
  rw [HM.out]
  clear HM HF
  generalize List.replicate (64 - (keyL k).length) (0 : UInt8) = zz at *
  generalize fillL k = f at *
  have m1 := maskL_len 54 f
  have m2 := maskL_len 92 f
  have c1 := str_cat (maskL 54 f) b
  have s1 := shaS_str (maskL 54 f ++ b)
  have c2 := str_cat (maskL 92 f) (shaL (maskL 54 f ++ b))
  have s2 := shaS_str (maskL 92 f ++ shaL (maskL 54 f ++ b))
  have l1 := shaL_len (maskL 54 f ++ b)
  have l2 := str_size (shaL (maskL 54 f ++ b))
  have l3 := str_size b
  have l4 := str_size (maskL 54 f)
  have l5 := str_size (maskL 92 f)
  have l6 := str_size (maskL 54 f ++ b)
  have l7 := str_size (maskL 92 f ++ shaL (maskL 54 f ++ b))
  rw [List.length_append] at l6 l7
  generalize shaL (maskL 92 f ++ shaL (maskL 54 f ++ b)) = out at *
  generalize maskL 92 f ++ shaL (maskL 54 f ++ b) = x2 at *
  generalize shaL (maskL 54 f ++ b) = y1 at *
  generalize maskL 54 f ++ b = x1 at *
  generalize H92 : maskL 92 f = f92 at *
  generalize H54 : maskL 54 f = f54 at *
  have H92 : Hid (maskL 92 f = f92) := H92
  have H54 : Hid (maskL 54 f = f54) := H54
  have hss := shaS_str k
  have hs2 := str_size (keyL k)
  have hmk : ∀ w, (Instr.makeSlice 37 (.int .i64 64) (.int .i64 64)).run Try.prog w = .ok (.slice (some ⟨w.heap.size, 0, none⟩) 64 64) (w.alloc (zeroRow 64)) := make8 64 (by decide)
  rcases (Classical.em (64 < k.length)) with h | h
  case' inl =>
    have e : keyL k = shaL k := by unfold keyL; rw [if_pos h]
    rw [← e] at hss
    generalize keyL k = kl at *
    clear e
    go_enter Try.func34, Try.ntmps34
    go_wp2_with (first | (go_at_call 45; refine (ref_sum _ _ (by omega)).mono ?_; rintro e w0 ⟨rfl, b0⟩; rw [hss]) | (go_at_call 24; refine (hrep _).mono ?_; rintro e w' ⟨rfl, b'⟩))
    replace b' := bel_chain b0 b'
    clear b0 h
  case' inr =>
    have e : keyL k = k := by unfold keyL; rw [if_neg h]
    rw [e] at hrep hcat hzs
    clear e hkl hs2
    go_enter Try.func34, Try.ntmps34
    go_wp2_with (first | (go_at_call 24; refine (hrep _).mono ?_; rintro e w' ⟨rfl, b'⟩))
    clear h
  all_goals
    clear hrep hss hcat hzs
    go_cut [5, 6] (fun s5 s6 wx => ∃ gi go : Nat, s5 = .slice (some ⟨gi, 0, none⟩) 64 64 ∧ s6 = .slice (some ⟨go, 0, none⟩) 64 64 ∧ gi ≠ go ∧ w'.heap.size ≤ gi ∧ w'.heap.size ≤ go ∧ RowIs wx gi 5 (cells8 (List.replicate 64 0)) ∧ RowIs wx go 5 (cells8 (List.replicate 64 0)) ∧ Below w'.heap.size w' wx)
    case first =>
      go_region
      all_goals
        go_wp2
        go_meet
        have h2 := two_rows w'
        first
          | exact ⟨_, _, rfl, rfl, by omega, by omega, by omega, h2.1, h2.2.1, h2.2.2⟩
          | exact ⟨_, _, rfl, rfl, by omega, by omega, by omega, h2.2.1, h2.1, h2.2.2⟩
    case rest =>
      obtain ⟨gi, go, rfl, rfl, hne, hgi, hgo, hri, hro, hbel⟩ := hcut
      go_wp2
      rw [← maskTo_zero 54 f] at hri
      rw [← maskTo_zero 92 f] at hro
      go_loopw [7] (fun i wr => ∃ j : Nat, j ≤ 64 ∧ i = .int .i64 j ∧ RowIs wr gi 5 (cells8 (maskTo 54 f j)) ∧ RowIs wr go 5 (cells8 (maskTo 92 f j)) ∧ Below w'.heap.size w' wr) (fun i _ => 64 - (intOf i).toNat)
      case atStart => exact ⟨0, by omega, rfl, hri, hro, hbel⟩
      case round =>
        clear hri hro hbel
        obtain ⟨j, hj, rfl, hri, hro, hbel⟩ := hrel
        by_cases hlt : j < 64
        · obtain ⟨v1, hc1⟩ := row_mask_cell hri hfl hlt
          obtain ⟨v2, hc2⟩ := row_mask_cell hro hfl hlt
          have hf1 := hri.frozen j
          have hf2 := hro.frozen j
          have hss := str_size f
          have hjs : j < (str f).size := by omega
          have hx1 : bits BinOp.xor IntKind.u8 ((str f)[j].toNat : Int) 54 = (((str f)[j].toNat ^^^ 54 : Nat) : Int) := u8_xor_nat _ 54 (UInt8.toNat_lt _) (by decide)
          have hx2 : bits BinOp.xor IntKind.u8 ((str f)[j].toNat : Int) 92 = (((str f)[j].toNat ^^^ 92 : Nat) : Int) := u8_xor_nat _ 92 (UInt8.toNat_lt _) (by decide)
          have HX : Hid (f[j]? = some (str f)[j]) := by rw [Hid, List.getElem?_eq_getElem (by omega)]; rfl
          go_wp2
          go_region
          all_goals
            go_wp2
            go_roundw
            case rel =>
              have r1 := row_mask hri hfl hlt HX.out
              have r2 := row_mask hro hfl hlt HX.out
              first
                | exact ⟨j + 1, by omega, by go_num, (r1.setOther (a := ⟨go, j, none⟩) hne _).drew, (row_mask (hro.setOther (a := ⟨gi, j, none⟩) (Ne.symm hne) _) hfl hlt HX.out).drew, ((hbel.setCell hgi _).setCell hgo _).drew⟩
                | exact ⟨j + 1, by omega, by go_num, (row_mask (hri.setOther (a := ⟨go, j, none⟩) hne _) hfl hlt HX.out).drew, (r2.setOther (a := ⟨gi, j, none⟩) (Ne.symm hne) _).drew, ((hbel.setCell hgo _).setCell hgi _).drew⟩
            case measure => simp [intOf]; omega
        · have hj64 : j = 64 := by omega
          subst hj64
          rw [maskTo_all 54 f hfl, H54.out] at hri
          rw [maskTo_all 92 f hfl, H92.out] at hro
          have hgl := hro.lt
          have hci := row_string hri (n := 64) (by omega)
          have hco := row_string hro (n := 64) (by omega)
          have hcid := row_string hri.drew (n := 64) (by omega)
          have hcod := row_string hro.drew (n := 64) (by omega)
          have HB : Hid (∀ w2, Below wr.heap.size wr.drew w2 → (convert 37 9 (.slice (some ⟨go, 0, none⟩) 64 64)).run Try.prog w2 = .ok (.string (str f92)) w2) := fun w2 b2 => row_string (hro.drew.below b2 hgl) (by omega)
          clear hri hro
          go_wp2
          go_region_with (go_at_call 45; refine (ref_sum _ _ (by omega)).mono ?_; rintro e w2 ⟨rfl, b2⟩; first | (rw [s1]; have hc2 := HB.out _ b2; have b3 : Below wr.drew.heap.size wr.drew w2 := b2; clear b2) | (rw [s2]; have b4 : Below wr.heap.size wr.drew w2 := bel_chain b3 b2; clear b2 b3))
          all_goals
            go_wp2
            go_ret
            exact ⟨rfl, bel_chain b' (hbel.drew.trans (b4.mono hbel.size))⟩

theorem ref_mac (k b : ByteArray) (w : World) (hk : k.size ≤ 288230376151711744) (hb : b.size ≤ 140737488355328) :
    Calls Try.prog 34 #[.string k, .string b] w fun e w' => e = .returned (.string (macS k b)) ∧ Below w.heap.size w w' := by
  obtain ⟨k, rfl⟩ : ∃ l, k = str l := ⟨_, (str_back k).symm⟩
  obtain ⟨b, rfl⟩ : ∃ l, b = str l := ⟨_, (str_back b).symm⟩
  rw [str_size] at hk hb
  exact ref_mac_list k b w hk hb

end Go.Proofs.Ytlhlpcfjoccgcaa
