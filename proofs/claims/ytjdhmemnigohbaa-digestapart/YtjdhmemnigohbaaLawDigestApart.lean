/- Promises P201, P202: for every two texts a and b the law DigestApart answers true at the landed code: two Digests, one told in between, do not hang on one another, and a sum told twice is the same. No condition; texts of more than 300 bytes the law itself lets by. -/
import Derived.Test.YtjdhmemnigohbaaRows
import Derived.WalkKit
import Derived.ProofKit
import Derived.OpenShut
import Derived.ShutString
import Derived.Test.YtjdhmemnigohbaaAlive2
import Derived.Test.YtjdhmemnigohbaaRefF
namespace Go.Proofs.Ytjdhmemnigohbaa.digestApart
open Go.ChangeShapes Go.WideShapes Go.ChangeAt Go.RowKit
open Go.ChangeMaps (open_string shut_string)
set_option linter.unusedVariables false      -- a walk need not use every 'w<i>' (that an integer argument fits its kind)

theorem own : ownKnob Try.prog.godebug = none := by kernel_rfl

set_option maxHeartbeats 4000000 in
set_option maxRecDepth 100000 in
theorem walk (a0 : ByteArray) (a1 : ByteArray) (w0 : a0.size ≤ maxLen) (w1 : a1.size ≤ maxLen) (w : World) :
    Calls Try.prog 6 #[.string a0, .string a1] w fun e w' => e = .returned (.bool true) ∧ Below w.heap.size w w' := by
  unfold maxLen at w0 w1
  cases d1 : decide (300 < (a0.size : Int))
  cases d2 : decide (300 < (a1.size : Int))
  · obtain ⟨x, rfl⟩ : ∃ l, a0 = str l := ⟨_, (str_back a0).symm⟩
    obtain ⟨y, rfl⟩ : ∃ l, a1 = str l := ⟨_, (str_back a1).symm⟩
    have h1 : x.length ≤ 300 := by rw [decide_eq_false_iff_not, str_size] at d1; omega
    have h2 : y.length ≤ 300 := by rw [decide_eq_false_iff_not, str_size] at d2; omega
    have hcat : str x ++ str y = str (x ++ y) := str_cat x y
    have hsx : (str x).size = x.length := str_size x
    have hsy : (str y).size = y.length := str_size y
    have hln : ¬ (9223372036854775807 < x.length + y.length) := by omega
    have hlt : (x ++ y).length ≤ 600 := by rw [List.length_append]; omega
    have hsz : (str (shaL x)).size = 32 := by rw [str_size, shaL_len]
    rw [hsx] at d1
    rw [hsy] at d2
    clear w0 w1
    go_enter Try.func6, Try.ntmps6
    go_wp2_with fail
    refine (alive2_any _).mono ?_
    rintro e w1 ⟨rfl, b⟩
    have hd := fresh_zero w1
    have he := fresh_zero (w1.alloc (.cells Try.zeroCells43 43))
    rw [show (w1.alloc (.cells Try.zeroCells43 43)).heap.size = w1.heap.size + 1 from by simp] at he
    have hd' := hd.below ((Below.refl _ _).alloc (Nat.le_refl _) (.cells Try.zeroCells43 43))
    have b2 : Below w.heap.size w ((w1.alloc (.cells Try.zeroCells43 43)).alloc (.cells Try.zeroCells43 43)) := (b.alloc b.size _).alloc (by have := b.size; simp; omega) _
    have hs0 : w.heap.size ≤ w1.heap.size := b.size
    clear b hd
    go_wp2_with fail
    generalize (w1.alloc (.cells Try.zeroCells43 43)).alloc (.cells Try.zeroCells43 43) = w2 at *
    refine (dig_add w1.heap.size [] x _ hd' (by simp; omega)).mono ?_
    rintro e w3 ⟨rfl, hd3, hu3⟩
    rw [List.nil_append] at hd3
    have he3 := he.upon hu3 (by omega)
    have b3 := upon_below b2 hu3 hs0
    clear hd' he b2 hu3
    go_wp2_with fail
    refine (dig_add (w1.heap.size + 1) [] y _ he3 (by simp; omega)).mono ?_
    rintro e w4 ⟨rfl, he4, hu4⟩
    rw [List.nil_append] at he4
    have hd4 := hd3.upon hu4 (by omega)
    have b4 := upon_below b3 hu4 (by omega)
    clear hd3 he3 b3 hu4
    go_wp2_with fail
    refine (dig_sum w1.heap.size x _ (Or.inl hd4) (by omega)).mono ?_
    rintro e w5 ⟨rfl, hd5, hu5⟩
    have he5 := he4.upon hu5 (by omega)
    have b5 := upon_below b4 hu5 hs0
    clear hd4 he4 b4 hu5
    go_wp2_with fail
    refine (dig_sum (w1.heap.size + 1) y _ (Or.inl he5) (by omega)).mono ?_
    rintro e w6 ⟨rfl, he6, hu6⟩
    have hd6 := hd5.upon hu6 (by omega)
    have b6 := upon_below b5 hu6 (by omega)
    clear hd5 he5 b5 hu6
    go_wp2_with fail
    refine (dig_add w1.heap.size x y _ (Or.inl hd6) (by omega)).mono ?_
    rintro e w7 ⟨rfl, hd7, hu7⟩
    have he7 := he6.upon hu7 (by omega)
    have b7 := upon_below b6 hu7 hs0
    clear hd6 he6 b6 hu7
    go_wp2_with fail
    refine (digest_sum _ _ (by omega)).mono ?_
    rintro e w8 ⟨rfl, b'⟩
    rw [shaS_str]
    have hd8 := hd7.below b'
    have he8 := he7.below b'
    have b8 := bel_chain b7 b'
    clear hd7 he7 b7 b'
    go_wp2_with fail
    refine (digest_sum _ _ (by omega)).mono ?_
    rintro e w9 ⟨rfl, b'⟩
    rw [shaS_str]
    have hd9 := hd8.below b'
    have he9 := he8.below b'
    have b9 := bel_chain b8 b'
    clear hd8 he8 b8 b'
    go_wp2_with fail
    refine (dig_sum w1.heap.size (x ++ y) _ (Or.inl hd9) (by omega)).mono ?_
    rintro e w10 ⟨rfl, hd10, hu10⟩
    have he10 := he9.upon hu10 (by omega)
    have b10 := upon_below b9 hu10 hs0
    clear hd9 he9 b9 hu10
    go_wp2_with fail
    refine (digest_sum _ _ (by rw [str_size]; omega)).mono ?_
    rintro e w11 ⟨rfl, b'⟩
    rw [shaS_str]
    have hd11 := hd10.below b'
    have he11 := he10.below b'
    have b11 := bel_chain b10 b'
    clear hd10 he10 b10 b'
    go_wp2_with fail
    refine (dig_sum w1.heap.size (x ++ y) _ (Or.inl hd11) (by omega)).mono ?_
    rintro e w12 ⟨rfl, hd12, hu12⟩
    have he12 := he11.upon hu12 (by omega)
    have b12 := upon_below b11 hu12 hs0
    clear hd11 he11 b11 hu12
    go_wp2_with fail
    refine (dig_sum w1.heap.size (x ++ y) _ (Or.inl hd12) (by omega)).mono ?_
    rintro e w13 ⟨rfl, hd13, hu13⟩
    have he13 := he12.upon hu13 (by omega)
    have b13 := upon_below b12 hu13 hs0
    clear hd12 he12 b12 hu13
    go_wp2_with fail
    refine (dig_sum (w1.heap.size + 1) y _ (Or.inl he13) (by omega)).mono ?_
    rintro e w14 ⟨rfl, he14, hu14⟩
    have b14 := upon_below b13 hu14 (by omega)
    clear hd13 he13 b13 hu14
    go_wp2
    go_ret
    exact ⟨rfl, b14⟩
  all_goals
    go_enter Try.func6, Try.ntmps6
    go_wp2_with fail
    refine (alive2_any _).mono ?_
    rintro e w1 ⟨rfl, b1⟩
    go_wp2
    go_ret
    exact ⟨rfl, b1⟩

set_option maxRecDepth 100000 in
theorem lifted (os : Os) (started : os.Started) (H : Type) (enc : TypeId × Value → H) :
    ReturnsInHanded {} Try.checked os 6 .any (Rows.digestApartSpec.pre6 enc Try.prog Try.f6 Rows.digestApartRow.domain false) (Rows.digestApartSpec.post enc Try.prog Try.f6 false true false false) := by
  refine returnsInHanded_of_change (C := Try.checked) own started (by kernel_rfl) Try.func6
    (ChangeSpec.witness6 (enc := enc) (C := Try.checked) false ⟨#[], #[.string ByteArray.empty, .string ByteArray.empty], []⟩ 8 (by kernel_rfl) (by kernel_rfl) (by kernel_rfl) (by kernel_rfl)) ?_
  intro W base args ds gs before hval0 hW hcnd _
  have hval : ∀ (j : Nat) t v, Try.f6.params[j]? = some t → args[j]? = some v → Value.okWide Try.prog W .any base t v := hval0
  have hW' := hW
  obtain ⟨p, q, hA0, hV, rfl, hfz, hnd⟩ := hW
  have hA : DataW.TrodAll enc Try.prog W 0 (fun _ => true) true Try.f6.params.toList args.toList ds p := hA0
  rw [Try.params6] at hA hval
  obtain ⟨v0, vs0, d0, ds0, p0, q0, hargs, rfl, rfl, h0, r0⟩ := trodAll_cons hA
  obtain ⟨v1, vs1, d1, ds1, p1, q1, rfl, rfl, rfl, h1, r1⟩ := trodAll_cons r0
  obtain ⟨rfl, rfl, rfl⟩ := trodAll_nil r1
  obtain rfl : args = #[v0, v1] := by cases args; simp_all
  obtain ⟨rfl, rfl⟩ := trodVars_none hV
  obtain ⟨a0, rfl, rfl, rfl, w0⟩ := open_string Try.underlying9 (hval 0 9 v0 rfl rfl) h0
  obtain ⟨a1, rfl, rfl, rfl, w1⟩ := open_string Try.underlying9 (hval 1 9 v1 rfl rfl) h1
  clear hA0 hval0
  simp only [List.append_nil] at hW'
  refine (walk a0 a1 w0 w1 W).mono fun e W' ⟨he, hg⟩ => ?_
  subst he
  exact ⟨_, rfl, _, _, _, [], [], [], hW', (trodAll_cons_mk (shut_bool Try.underlying4 _) trodAll_mk0), (trodAll_cons_mk (shut_string Try.underlying9 w0) (trodAll_cons_mk (shut_string Try.underlying9 w1) trodAll_mk0)), rfl, hg.frame _, fun h => by cases h⟩

theorem over : Rows.digestApartRow.holds Try.pinned (OpenSpec.ofChange Rows.digestApartSpec) :=
  OpenClaim.holds_of_wide 6 Try.f6 rfl rfl rfl rfl rfl rfl rfl ⟨rfl, rfl, rfl, rfl, rfl⟩ rfl rfl rfl rfl rfl (by kernel_rfl) Try.func6 (by kernel_rfl)
    (of_decide_eq_true (by kernel_rfl)) (by unfold Func.isWrapper; first | (rw [if_pos (by decide +kernel)]; kernel_rfl) | (rw [if_neg (by decide +kernel)]; exact ⟨rfl, rfl⟩))
    (fun os started H enc _ => lifted os started H enc)

theorem proved : Rows.DigestApartSaid :=
  over
#print axioms proved
end Go.Proofs.Ytjdhmemnigohbaa.digestApart
