/-
  Parts of this proof, one behind the other: Poly11, Poly12.
-/
import Derived.Test.YtanghehmfagmfaaGreatDoorBun24
import Derived.Test.YtanghehmfagmfaaGreatDoorBun17
import Derived.Deep.RegionHeld3

/-
  Poly1305 in plain words, and the contract of package onetime's Tag.
-/
namespace Go.Proofs.YtanghehmfagmfaaGreatDoor
open Go.RowKit
set_option linter.unusedVariables false
set_option maxRecDepth 100000
set_option linter.unusedSimpArgs false

/-- The tag of bytes under a key. -/
def tagV (key b : List UInt8) : Int := accTo (leV (clampL key)) b ((b.length + 15) / 16) + leV (key.drop 16)
def tagS (key b : ByteArray) : ByteArray := put16S (tagV key.data.toList b.data.toList)
theorem tagS_size (key b : ByteArray) : (tagS key b).size = 16 := put16S_size _

theorem addL_val (x y : List Int) (hx : x.length = 5) (hy : y.length = 5) : valN (addL x y 5) = valN x + valN y := by
  obtain ⟨a, b, c, d, e, rfl⟩ := five_of x hx
  obtain ⟨a', b', c', d', e', rfl⟩ := five_of y hy
  rw [show addL [a, b, c, d, e] [a', b', c', d', e'] 5 = [a + a', b + b', c + c', d + d', e + e'] from rfl]
  simp only [valN]
  omega
theorem leV_one (l : List UInt8) (h : l.length ≤ 16) : leV (l ++ [1]) < 1361129467683753853853498429727072845824 := by
  rw [leV_append]
  have b := leV_bd l
  have e : leV [1] = 1 := rfl
  have h2 := pow256_le _ _ h
  rw [show (256 : Int) ^ 16 = 340282366920938463463374607431768211456 from by decide] at h2
  rw [e]
  omega
theorem clamp_lt (l : List UInt8) : leV (clampL l) < 1361129467683753853853498429727072845824 := by
  have b := leV_bd (clampL l)
  rw [clampL_len, show (256 : Int) ^ 16 = 340282366920938463463374607431768211456 from by decide] at b
  omega
theorem one_snoc (a : ByteArray) : (a ++ ⟨#[1]⟩).data.toList = a.data.toList ++ [1] := by simp
theorem extract_take (t : ByteArray) (n : Nat) : (t.extract 0 n).data.toList = t.data.toList.take n := by
  rw [ByteArray.data_extract, Array.toList_extract, List.extract_eq_take_drop]; simp
/-- One group more. -/
theorem acc_step (key b : List UInt8) (s nu rr y : List Int) (k : Nat) (hs : Settled s) (hnl : nu.length = 5) (hsv : valN s % p130 = accTo (leV (clampL key)) b k) (hnv : valN nu = leV (((b.drop (16 * k)).take 16) ++ [1])) (hrv : valN rr = leV (clampL key))
    (hy : valN y % p130 = (valN (addL s nu 5) * valN rr) % p130) : valN y % p130 = accTo (leV (clampL key)) b (k + 1) := by
  rw [hy, addL_val s nu hs.1 hnl, accTo, ← hsv, ← hnv, hrv]
  exact rest_mul _ _ _ _ (by rw [Int.emod_emod_of_dvd _ (Int.dvd_refl _)])

/-- The operations of 'sum = times(plus(sum, numberOf(b[:n]+1)), r)'. -/
def tagList : List (Option Tmp × Op) :=
  [(some 26, .load 220 (.tmp 9)), (some 27, .move (.tmp 1)), (some 28, .move (.tmp 10)), (some 29, .slice 9 (.tmp 27) none (some (.tmp 28)) none),
   (some 30, .binOp .add 9 (.tmp 29) (.const (.string ⟨#[1]⟩)) 9),
   (some 31, .call { callee := .value (.func 175), args := #[.tmp 30], argTypes := #[9] }),
   (some 32, .call { callee := .value (.func 177), args := #[.tmp 26, .tmp 31], argTypes := #[220, 220] }),
   (some 33, .load 220 (.tmp 8)),
   (some 34, .call { callee := .value (.func 176), args := #[.tmp 32, .tmp 33], argTypes := #[220, 220] }),
   (none, .store 220 (.tmp 9) (.tmp 34))]
def tgL0 : Array Bool := Array.replicate 10 false
def tgL1 : Array Bool := listAll [1, 2, 3, 4] tgL0
def tgL2 : Array Bool := listAll [0, 7] tgL1
def tgL3 : Array Bool := tgL2.setIfInBounds 5 true
def tgL4 : Array Bool := tgL3.setIfInBounds 6 true
def tgL5 : Array Bool := tgL4.setIfInBounds 8 true
def tgL6 : Array Bool := tgL5.setIfInBounds 9 true
def plainOp (ops : Array Oper) (i : Nat) : Bool := (ops[i]?).any fun o => o.guard.isNone
theorem plainOp_spec {ops : Array Oper} {i : Nat} {o : Oper} (h : plainOp ops i = true) (ho : ops[i]? = some o) : o.guard = none := by
  simpa [plainOp, ho] using h
def tagOk (ops : Array Oper) : Bool :=
  ops.size == 10 && Region.noSelect ops && planOk .any ops [1, 2, 3, 4] tgL0 && planOk .any ops [0, 7] tgL1 && ([0, 7].all fun i => awaits .any ops 9 i) && Region.ready .any ops tgL2 == [5] && plainOp ops 5 &&
  Region.ready .any ops tgL3 == [6] && plainOp ops 6 && Region.ready .any ops tgL4 == [8] && plainOp ops 8 && Region.ready .any ops tgL5 == [9] && plainOp ops 9 && Region.ready .any ops tgL6 == []

set_option maxRecDepth 100000 in
set_option maxHeartbeats 1000000 in
theorem tag_region {ops : Array Oper} {id : Nat} {Q : Exit → Act → World → Prop} (hops : kinds ops = tagList) (hok : tagOk ops = true) (hQ : ∀ c a d v w, Q (.panic c) (a.put d v) w → Q (.panic c) a w)
    (g n : Nat) (t ps : ByteArray) (s rr nu u : List Int) (w : World) (a : Act) (hsl : s.length = 5) (hrl : rr.length = 5) (R : List Int → Prop) (hn : n ≤ t.size) (ht : t.size ≤ 4611686018427387904) (hps : t.extract 0 n ++ ⟨#[1]⟩ = ps)
    (HN : ∀ w : World, Calls Tryz.prog 175 #[.string ps] w fun e w' => e = .returned (.agg (cells64 nu).toArray) ∧ Below w.heap.size w w')
    (HP : ∀ w : World, Calls Tryz.prog 177 #[.agg (cells64 s).toArray, .agg (cells64 nu).toArray] w fun e w' => e = .returned (.agg (cells64 u).toArray) ∧ Below w.heap.size w w')
    (HT : ∀ w : World, Calls Tryz.prog 176 #[.agg (cells64 u).toArray, .agg (cells64 rr).toArray] w fun e w' => (∃ y, (y.length = 5 ∧ R y) ∧ e = .returned (.agg (cells64 y).toArray)) ∧ Below w.heap.size w w')
    (q8 : RowIs w g 220 (cells64 rr)) (q9 : RowIs w (g + 1) 220 (cells64 s))
    (hz : a.tmps.size = 43) (h1 : a.eval (.tmp 1) = .string t) (h8 : a.eval (.tmp 8) = .pointer (some ⟨g, 0, none⟩)) (h9 : a.eval (.tmp 9) = .pointer (some ⟨g + 1, 0, none⟩)) (h10 : a.eval (.tmp 10) = .int .i64 (n : Int))
    (K : ∀ y w', y.length = 5 → R y → RowIs w' g 220 (cells64 rr) → RowIs w' (g + 1) 220 (cells64 y) → Upon (g + 1) w w' →
      Q .normal (((((((((a.put (some 27) (.string t)).put (some 28) (.int .i64 (n : Int))).put (some 29) (.string (t.extract 0 n))).put (some 30) (.string ps)).put (some 26) (.agg (cells64 s).toArray)).put (some 33) (.agg (cells64 rr).toArray)).put (some 31) (.agg (cells64 nu).toArray)).put (some 32) (.agg (cells64 u).toArray)).put (some 34) (.agg (cells64 y).toArray)) w') :
    (Code.region id ops true).wp Tryz.prog Q a w := by
  simp only [tagOk, Bool.and_eq_true, beq_iff_eq] at hok
  obtain ⟨⟨⟨⟨⟨⟨⟨⟨⟨⟨⟨⟨⟨o1, o2⟩, o3⟩, o4⟩, o5⟩, o6⟩, o7⟩, o8⟩, o9⟩, oa⟩, ob⟩, oc⟩, od⟩, oe⟩ := hok
  have hlt : g + 1 < w.heap.size := q9.lt
  have u0 : Upon (g + 1) w w.drew := (Upon.refl (g + 1) w).drew
  have r8 := q8.drew
  have r9 := q9.drew
  have hlt' : g + 1 < w.drew.heap.size := hlt
  clear q8 q9
  generalize hw0 : w.drew = w0 at *
  have hT0 : RowIs w0 g 220 (cells64 rr) ∧ RowIs w0 (g + 1) 220 (cells64 s) := ⟨r8, r9⟩
  refine wp_region_T (n := 10) (fun _ => True) (fun w => RowIs w g 220 (cells64 rr) ∧ RowIs w (g + 1) 220 (cells64 s)) 9 (by kernel_rfl) o1 ?_
  rw [hw0]
  refine wpAnyT_takesS (T := fun w => RowIs w g 220 (cells64 rr) ∧ RowIs w (g + 1) 220 (cells64 s)) o2 hQ [(1, .string t), (2, .int .i64 (n : Int)), (3, .string (t.extract 0 n)), (4, .string ps)] 6 _ a _ _ o3 rfl
    (.cons hops rfl (fun o ho w _ => run_move' ho h1 w)
      (.cons hops rfl (fun o ho w _ => run_move' ho (by simp [eval_put, size_put, hz, h10]) w)
        (.cons hops rfl (fun o ho w _ => run_sliceH' ho (by simp [eval_put, size_put, hz]) (by simp [eval_put, size_put, hz]) Tryz.underlying9 hn w)
          (.cons hops rfl (fun o ho w _ => by
            have := run_cat' (P := Tryz.prog) (a := ((a.put (some 27) (.string t)).put (some 28) (.int .i64 (n : Int))).put (some 29) (.string (t.extract 0 n))) ho (s := t.extract 0 n) (r := ⟨#[1]⟩) (by simp [eval_put, size_put, hz]) rfl Tryz.underlying9 (by
              have e1 : (t.extract 0 n).size = n := by simp; omega
              have e2 : (⟨#[1]⟩ : ByteArray).size = 1 := rfl
              omega) w
            rw [hps] at this
            exact this) .nil)))) True.intro hT0 ?_
  have hcl : ∀ (l : List Int), l.length = 5 → (Tryz.prog.info? 220).map (·.size) = some (cells64 l).length := fun l h => by rw [size5, cells64_len, h]
  refine wpAnyT_takesT (T := fun w => RowIs w g 220 (cells64 rr) ∧ RowIs w (g + 1) 220 (cells64 s)) o2 hQ [(0, .agg (cells64 s).toArray), (7, .agg (cells64 rr).toArray)] 4 _ _ _ _ o4 o5
    (.cons hops rfl (fun o ho w hw => run_loadM' ho (by simp [eval_put, size_put, hz, h9]) Tryz.underlying220 rfl (hcl s hsl) w hw.2.2.all)
      (.cons hops rfl (fun o ho w hw => run_loadM' ho (by simp [eval_put, size_put, hz, h8]) Tryz.underlying220 rfl (hcl rr hrl) w hw.2.1.all) .nil)) True.intro hT0 ?_
  obtain ⟨q5, hq5, hd5, hx5⟩ := kinds_at hops (i := 5) rfl
  refine wpAnyT_step o6 hq5 (plainOp_spec o7 hq5) (by decide) (wp_callE hx5 (vs := #[.string ps]) (by simp [eval_put, size_put, hz]) (by simp [go_sem]) ((HN w0).mono ?_))
  rintro e w1 ⟨rfl, b1⟩
  refine ⟨_, rfl, True.intro, ⟨r8.below b1 (by omega), r9.below b1 (by omega)⟩, ?_⟩
  have p8 := r8.below b1 (by omega)
  have p9 := r9.below b1 (by omega)
  rw [hd5]
  obtain ⟨q6, hq6, hd6, hx6⟩ := kinds_at hops (i := 6) rfl
  refine wpAnyT_step o8 hq6 (plainOp_spec o9 hq6) (by decide) (wp_callE hx6 (vs := #[.agg (cells64 s).toArray, .agg (cells64 nu).toArray]) (by simp [eval_put, size_put, hz]) (by simp [go_sem]) ((HP w1).mono ?_))
  rintro e w2 ⟨rfl, b2⟩
  have l1 : g + 1 < w1.heap.size := p9.lt
  have s8 := p8.below b2 (by omega)
  have s9 := p9.below b2 (by omega)
  refine ⟨_, rfl, True.intro, ⟨s8, s9⟩, ?_⟩
  rw [hd6]
  obtain ⟨q7, hq7, hd7, hx7⟩ := kinds_at hops (i := 8) rfl
  refine wpAnyT_step oa hq7 (plainOp_spec ob hq7) (by decide) (wp_callE hx7 (vs := #[.agg (cells64 u).toArray, .agg (cells64 rr).toArray]) (by simp [eval_put, size_put, hz]) (by simp [go_sem]) ((HT w2).mono ?_))
  rintro e w3 ⟨⟨y, ⟨hy1, hy2⟩, rfl⟩, b3⟩
  have l2 : g + 1 < w2.heap.size := s9.lt
  have v8 := s8.below b3 (by omega)
  have v9 := s9.below b3 (by omega)
  refine ⟨_, rfl, True.intro, ⟨v8, v9⟩, ?_⟩
  rw [hd7]
  obtain ⟨qs, hqs, hds, hxs⟩ := kinds_at hops (i := 9) rfl
  have hly : (cells64 y).length = 5 := by rw [cells64_len, hy1]
  have hls : (cells64 s).length = 5 := by rw [cells64_len, hsl]
  refine wpAnyT_call oc hqs (plainOp_spec od hqs) (wp_store_mid 220 _ _ hxs (g + 1) 0 (cells64 y).toArray (by simp [eval_put, size_put, hz, h9]) (by simp [eval_put, size_put, hz]) (v9.there (by simp [hly, hls])) (by rw [size5]; simp [hly]) (all_oneCell_toArray (cells64_one y)) ⟨True.intro, oe, ?_⟩)
  rw [hds]
  have k1 : RowIs (w3.setCells (g + 1) 0 (cells64 y)) g 220 (cells64 rr) := ((Upon.refl (g + 1) w3).setCells 0 (cells64 y)).row v8 (by omega)
  have k2 : RowIs (w3.setCells (g + 1) 0 (cells64 y)) (g + 1) 220 (cells64 y) := v9.putAll (by rw [hly, hls])
  have k3 : Upon (g + 1) w (w3.setCells (g + 1) 0 (cells64 y)) := ((u0.trans (Upon.of_below b1)).trans (Upon.of_below b2)).trans ((Upon.of_below b3).trans ((Upon.refl (g + 1) w3).setCells 0 (cells64 y)))
  have k := K y (w3.setCells (g + 1) 0 (cells64 y)) hy1 hy2 k1 k2 k3
  have en : ∀ b : Act, b.put none undef = b := fun _ => rfl
  rw [en, show (cells64 y).toArray.toList = cells64 y from rfl]
  exact k

end Go.Proofs.YtanghehmfagmfaaGreatDoor

/-
  The contract of package onetime's Tag.
-/
namespace Go.Proofs.YtanghehmfagmfaaGreatDoor
open Go.RowKit
set_option linter.unusedVariables false
set_option maxRecDepth 100000
set_option linter.unusedSimpArgs false

set_option maxRecDepth 100000 in
set_option maxHeartbeats 400000 in
theorem onetime_tag_yes (key b : ByteArray) (w : World) (hk : key.size = 32) (hb : b.size ≤ 4611686018427387904) :
    Calls Tryz.prog 138 #[.string key, .string b] w fun e w' => e = .returned (.tuple #[.string (tagS key b), .bool true]) ∧ Below w.heap.size w w' := by
  have hcl := onetime_clamp_yes key w hk
  have hcs := clampS_size key
  have hrr := nuL_spec (clampS key) (by rw [show (clampS key).data.toList = clampL key.data.toList from by simp [clampS, str]]; exact clamp_lt _)
  rw [show (clampS key).data.toList = clampL key.data.toList from by simp [clampS, str]] at hrr
  have HR : Hid (∀ w : World, Calls Tryz.prog 175 #[.string (clampS key)] w fun e w' => e = .returned (.agg (cells64 (nuL (clampS key) 5)).toArray) ∧ Below w.heap.size w w') := fun w => onetime_numberOf (clampS key) w (by omega)
  generalize clampS key = ck at *
  generalize nuL ck 5 = rr at *
  have hrl : rr.length = 5 := hrr.1.1
  have hrb : allB rr 67108864 := hrr.1.2
  have HRV : Hid (valN rr = leV (clampL key.data.toList)) := hrr.2
  clear hrr
  have hlr : (cells64 rr).length = 5 := by rw [cells64_len, hrl]
  have hor := all_oneCell_toArray (cells64_one rr)
  have hz5 : (cells64 z5).length = 5 := rfl
  have hrs : (Tryz.prog.info? 220).map (·.size) = some (cells64 rr).toArray.size := by rw [size5]; simp [hlr]
  go_enter Tryz.func138, Tryz.ntmps138
  go_wp2_with fail
  refine hcl.mono ?_
  rintro e w1 ⟨rfl, b1⟩
  go_wp2_with fail
  refine (HR.out _).mono ?_
  rintro e w2 ⟨rfl, b2⟩
  have b3 : Below w.heap.size w w2 := b1.trans (b2.mono b1.size)
  clear b1 b2 hcl HR
  obtain ⟨g, hg⟩ : ∃ g, g = w2.heap.size := ⟨_, rfl⟩
  have HG : Hid (w2.heap.size = g) := hg.symm
  have hwg : w.heap.size ≤ g := by rw [hg]; exact b3.size
  obtain ⟨w3, hw3⟩ : ∃ w3, w3 = w2.alloc (.cells (cells64 z5).toArray 220) := ⟨_, rfl⟩
  have t3 : RowIs w3 g 220 (cells64 z5) := by
    have := RowIs.new w2 220 (cells64 z5)
    rw [← hw3, ← hg] at this
    exact this
  have b4 : Below w.heap.size w w3 := hw3 ▸ b3.alloc b3.size _
  have s3 : w3.heap.size = g + 1 := by rw [hw3, hg]; simp
  have HA : Hid (w2.alloc (.cells (cells64 z5).toArray 220) = w3) := hw3.symm
  clear hw3 hg b3
  have HT : Hid (w3.there g 0 (cells64 rr).toArray.size) := t3.there (by simp [hlr, hz5])
  obtain ⟨w4, hw4⟩ : ∃ w4, w4 = w3.setCells g 0 (cells64 rr) := ⟨_, rfl⟩
  have t4 : RowIs w4 g 220 (cells64 rr) := hw4 ▸ t3.putAll (by rw [hlr, hz5])
  have b5 : Below w.heap.size w w4 := hw4 ▸ bel_setCells b4 hwg 0 (cells64 rr)
  have s4 : w4.heap.size = g + 1 := by rw [hw4, size_setCells, s3]
  have HW4 : Hid (w3.setCells g 0 (cells64 rr).toArray.toList = w4) := hw4.symm
  clear hw4 t3 b4 s3
  obtain ⟨w5, hw5⟩ : ∃ w5, w5 = w4.alloc (.cells (cells64 z5).toArray 220) := ⟨_, rfl⟩
  have t5 : RowIs w5 (g + 1) 220 (cells64 z5) := by
    have := RowIs.new w4 220 (cells64 z5)
    rw [← hw5, s4] at this
    exact this
  have t6 : RowIs w5 g 220 (cells64 rr) := hw5 ▸ t4.alloc _
  have b6 : Below w.heap.size w w5 := hw5 ▸ b5.alloc (by omega) _
  have HA5 : Hid (w4.alloc (.cells (cells64 z5).toArray 220) = w5) := hw5.symm
  clear hw5 t4 b5
  go_wp2_with (first | (refine wpList_allocN rfl rfl run_alloc5 g HG.out ?_; rw [HA.out]) | (refine wpList_store_mid rfl 220 _ _ rfl g 0 (cells64 rr).toArray rfl rfl ?_ hrs hor ?_; exact HT.out; rw [HW4.out]) | (refine wpList_allocN rfl rfl run_alloc5 (g + 1) s4 ?_; rw [HA5.out]))
  clear HG HA HT HW4 HA5 hor hrs s4
  simp only [Act.put, List.setIfInBounds_toArray, List.set]
  go_loopw [1] (fun v wr => ∃ (k : Nat) (t : ByteArray) (s : List Int), v = .string t ∧ 16 * k < b.size + 16 ∧ t.size = b.size - 16 * k ∧ t.data.toList = b.data.toList.drop (16 * k) ∧ Settled s ∧ valN s % p130 = accTo (leV (clampL key.data.toList)) b.data.toList k ∧ RowIs wr g 220 (cells64 rr) ∧ RowIs wr (g + 1) 220 (cells64 s) ∧ Below w.heap.size w wr) (fun v _ => match v with | .string t => t.size | _ => 0)
  case atStart => exact ⟨0, b, z5, rfl, by omega, by omega, rfl, ⟨rfl, allB_z5 _ (by decide), by decide, by decide, by decide, by decide⟩, rfl, t6, t5, b6⟩
  case round =>
    clear t6 t5 b6
    obtain ⟨k, t, s, rfl, hk1, hts, htl, hs, hsv, q8, q9, hbel⟩ := hrel
    have hsl : s.length = 5 := hs.1
    by_cases hlt : 0 < t.size
    · obtain ⟨n, hn⟩ : ∃ n, n = min t.size 16 := ⟨_, rfl⟩
      obtain ⟨ps, hps⟩ : ∃ ps : ByteArray, ps = t.extract 0 n ++ ⟨#[1]⟩ := ⟨_, rfl⟩
      have hpl : ps.data.toList = ((b.data.toList.drop (16 * k)).take 16) ++ [1] := by
        rw [hps, one_snoc, extract_take, htl, hn]
        congr 1
        by_cases h : t.size ≤ 16
        · rw [Nat.min_eq_left h, List.take_of_length_le (by simp; omega), List.take_of_length_le (by simp; omega)]
        · rw [Nat.min_eq_right (by omega)]
      have hpz : ps.size ≤ 17 := by
        have e : ps.size = ps.data.toList.length := by simp
        rw [e, hpl]
        simp
        omega
      have hnu := nuL_spec ps (by rw [hpl]; exact leV_one _ (by simp; omega))
      have HN : Hid (∀ w : World, Calls Tryz.prog 175 #[.string ps] w fun e w' => e = .returned (.agg (cells64 (nuL ps 5)).toArray) ∧ Below w.heap.size w w') := fun w => onetime_numberOf ps w (by omega)
      generalize nuL ps 5 = nu at *
      have hnl := hnu.1.1
      have hnb := hnu.1.2
      have HK : Hid (∀ y : List Int, Settled y → valN y % p130 = (valN (addL s nu 5) * valN rr) % p130 → valN y % p130 = accTo (leV (clampL key.data.toList)) b.data.toList (k + 1)) := fun y _ hy => acc_step _ _ s nu rr y k hs hnl hsv (by rw [hnu.2, hpl]) HRV.out hy
      clear hnu hpl
      have HP : Hid (∀ w : World, Calls Tryz.prog 177 #[.agg (cells64 s).toArray, .agg (cells64 nu).toArray] w fun e w' => e = .returned (.agg (cells64 (addL s nu 5)).toArray) ∧ Below w.heap.size w w') := fun w => onetime_plus s nu w hsl hnl (allB_mono hs.2.1 (by decide)) (allB_mono hnb (by decide))
      have HTI : ∀ w : World, Calls Tryz.prog 176 #[.agg (cells64 (addL s nu 5)).toArray, .agg (cells64 rr).toArray] w fun e w' => (∃ y, (y.length = 5 ∧ Settled y ∧ valN y % p130 = accTo (leV (clampL key.data.toList)) b.data.toList (k + 1)) ∧ e = .returned (.agg (cells64 y).toArray)) ∧ Below w.heap.size w w' := fun w =>
        (onetime_times _ rr w (by rw [addL_len]; exact hsl) hrl (allB_mono (addL_bd hsl hnl hs.2.1 hnb) (by decide)) hrb).mono (by
          rintro e w' ⟨⟨y, hy1, hy2, rfl⟩, hb⟩
          exact ⟨⟨y, ⟨hy1.1, hy1, HK.out y hy1 hy2⟩, rfl⟩, hb⟩)
      generalize addL s nu 5 = u at *
      have hnt : n ≤ t.size := by omega
      have htz : t.size ≤ 4611686018427387904 := by omega
      have HRG : Hid (∀ (a : Act) (ops : Array Oper) (id : Nat) (Q : Exit → Act → World → Prop), kinds ops = tagList → tagOk ops = true → (∀ c a d v w, Q (.panic c) (a.put d v) w → Q (.panic c) a w) → a.tmps.size = 43 → a.eval (.tmp 1) = .string t → a.eval (.tmp 8) = .pointer (some ⟨g, 0, none⟩) → a.eval (.tmp 9) = .pointer (some ⟨g + 1, 0, none⟩) → a.eval (.tmp 10) = .int .i64 (n : Int) →
          (∀ y w', y.length = 5 → (Settled y ∧ valN y % p130 = accTo (leV (clampL key.data.toList)) b.data.toList (k + 1)) → RowIs w' g 220 (cells64 rr) → RowIs w' (g + 1) 220 (cells64 y) → Upon (g + 1) wr w' →
            Q .normal (((((((((a.put (some 27) (.string t)).put (some 28) (.int .i64 (n : Int))).put (some 29) (.string (t.extract 0 n))).put (some 30) (.string ps)).put (some 26) (.agg (cells64 s).toArray)).put (some 33) (.agg (cells64 rr).toArray)).put (some 31) (.agg (cells64 nu).toArray)).put (some 32) (.agg (cells64 u).toArray)).put (some 34) (.agg (cells64 y).toArray)) w') →
          (Code.region id ops true).wp Tryz.prog Q a wr) := fun a ops id Q h1 h2 h3 h4 h5 h6 h7 h8 h9 => tag_region h1 h2 h3 g n t ps s rr nu u wr a hsl hrl _ hnt htz hps.symm HN.out HP.out HTI q8 q9 h4 h5 h6 h7 h8 h9
      clear hsv hnb hs HN HP HTI HK hps
      by_cases h16 : 16 < t.size
      · obtain rfl : n = 16 := by omega
        clear hn
        have h16' : (16 : Int) < (t.size : Int) := by omega
        go_wp2_with fail
        refine HRG.out _ _ _ _ (by kernel_rfl) (by kernel_rfl) ?_ rfl rfl rfl rfl rfl ?_
        case refine_1 => exact fun _ _ d _ _ h => by cases d <;> exact h
        case refine_2 =>
          intro y w6 hy1 hy2 k1 k2 k3
          simp only [Act.put, List.setIfInBounds_toArray, List.set]
          go_wp2
          go_roundw
          case rel =>
            refine ⟨k + 1, t.extract 16 (b.size - 16 * k), y, rfl, by omega, ?_, ?_, hy2.1, hy2.2, k1, k2, hbel.trans (k3.below (by omega) hbel.size)⟩
            · rw [ByteArray.size_extract, hts]; omega
            · rw [← hts, extract_list t 16 (by omega), htl, List.drop_drop]
              congr 1
          case measure => simp; omega
      · obtain rfl : n = b.size - 16 * k := by omega
        clear hn
        have h16' : ¬ ((16 : Int) < ((b.size - 16 * k : Nat) : Int)) := by omega
        go_wp2_with fail
        refine HRG.out _ _ _ _ (by kernel_rfl) (by kernel_rfl) ?_ rfl rfl rfl rfl rfl ?_
        case refine_1 => exact fun _ _ d _ _ h => by cases d <;> exact h
        case refine_2 =>
          intro y w6 hy1 hy2 k1 k2 k3
          simp only [Act.put, List.setIfInBounds_toArray, List.set]
          go_wp2
          go_roundw
          case rel =>
            refine ⟨k + 1, ByteArray.empty, y, rfl, by omega, ?_, ?_, hy2.1, hy2.2, k1, k2, hbel.trans (k3.below (by omega) hbel.size)⟩
            · show 0 = _; omega
            · rw [List.drop_of_length_le (by simp; omega)]; rfl
          case measure => simp; omega
    · have hk2 : k = (b.data.toList.length + 15) / 16 := by
        have : b.data.toList.length = b.size := by simp
        omega
      have HTV : Hid (tagS key b = put16S (accTo (leV (clampL key.data.toList)) b.data.toList k + leV (key.data.toList.drop 16))) := by
        show _ = _
        rw [tagS, tagV, hk2]
      obtain ⟨s0, s1, s2, s3, s4, rfl⟩ := five_of s hsl
      have HLE : Hid (∀ w : World, Calls Tryz.prog 179 #[.agg #[.int .u64 s0, .int .u64 s1, .int .u64 s2, .int .u64 s3, .int .u64 s4]] w fun e w' => (∃ y, Fair y ∧ valN y = accTo (leV (clampL key.data.toList)) b.data.toList k ∧ e = .returned (.agg (cells64 y).toArray)) ∧ Below w.heap.size w w') := fun w => hsv ▸ onetime_least [s0, s1, s2, s3, s4] w hs
      have hkl : (key.extract 16 32).data.toList = key.data.toList.drop 16 := by
        have := extract_list key 16 (by omega)
        rwa [hk] at this
      have HLS : Hid (∀ (y : List Int) (w : World), Fair y → Calls Tryz.prog 178 #[.agg (cells64 y).toArray, .string (key.extract 16 32)] w fun e w' => e = .returned (.string (put16S (valN y + leV (key.data.toList.drop 16)))) ∧ Below w.heap.size w w') := fun y w hy => hkl ▸ onetime_lowSum y (key.extract 16 32) w hy (by simp; omega)
      have c0 : wr.cell? ⟨g + 1, 0, none⟩ = some (.int .u64 s0) := q9.cellAt rfl
      have c1 : wr.cell? ⟨g + 1, 1, none⟩ = some (.int .u64 s1) := q9.cellAt rfl
      have c2 : wr.cell? ⟨g + 1, 2, none⟩ = some (.int .u64 s2) := q9.cellAt rfl
      have c3 : wr.cell? ⟨g + 1, 3, none⟩ = some (.int .u64 s3) := q9.cellAt rfl
      have c4 : wr.cell? ⟨g + 1, 4, none⟩ = some (.int .u64 s4) := q9.cellAt rfl
      generalize accTo (leV (clampL key.data.toList)) b.data.toList k = A at *
      generalize leV (key.data.toList.drop 16) = U at *
      clear hkl hsv hs hk2 q8 htl hsl
      have hd0 : ¬ (0 < b.size - 16 * k) := by omega
      have hlt9 : g + 1 < wr.heap.size := q9.lt
      clear q9
      have HRO : Hid (∀ w' : World, Below wr.heap.size wr w' → w'.cell? ⟨g + 1, 0, none⟩ = some (.int .u64 s0) ∧ w'.cell? ⟨g + 1, 1, none⟩ = some (.int .u64 s1) ∧ w'.cell? ⟨g + 1, 2, none⟩ = some (.int .u64 s2) ∧ w'.cell? ⟨g + 1, 3, none⟩ = some (.int .u64 s3) ∧ w'.cell? ⟨g + 1, 4, none⟩ = some (.int .u64 s4)) := fun w' b => ⟨(b.cell (p := ⟨g + 1, 0, none⟩) hlt9).trans c0, (b.cell (p := ⟨g + 1, 1, none⟩) hlt9).trans c1, (b.cell (p := ⟨g + 1, 2, none⟩) hlt9).trans c2, (b.cell (p := ⟨g + 1, 3, none⟩) hlt9).trans c3, (b.cell (p := ⟨g + 1, 4, none⟩) hlt9).trans c4⟩
      go_wp2_with fail
      go_region_held3 (fun w' => w'.cell? ⟨g + 1, 0, none⟩ = some (.int .u64 s0) ∧ w'.cell? ⟨g + 1, 1, none⟩ = some (.int .u64 s1) ∧ w'.cell? ⟨g + 1, 2, none⟩ = some (.int .u64 s2) ∧ w'.cell? ⟨g + 1, 3, none⟩ = some (.int .u64 s3) ∧ w'.cell? ⟨g + 1, 4, none⟩ = some (.int .u64 s4)) (first | exact HRO.out _ (by with_reducible assumption) | go_keep) (first | (go_at_call 179; refine (HLE.out _).mono ?_; rintro e w6 ⟨⟨y, hy1, hy2, rfl⟩, b6⟩; have b6' : Below wr.heap.size wr w6 := ⟨b6.os, b6.tape, b6.output, b6.size, b6.block⟩) | (go_at_call 178; refine (HLS.out y _ hy1).mono ?_; rintro e w7 ⟨rfl, b7⟩; have b7' : Below wr.heap.size wr w7 := b6'.trans (b7.mono b6'.size)))
      go_wp2
      go_ret2
      exact ⟨by rw [HTV.out, ← hy2]; rfl, hbel.trans (b7'.mono hbel.size)⟩

end Go.Proofs.YtanghehmfagmfaaGreatDoor
