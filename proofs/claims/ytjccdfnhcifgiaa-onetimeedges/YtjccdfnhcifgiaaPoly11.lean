/-
  Poly1305 in plain words, and the contract of package onetime's Tag.
-/
import Derived.Test.YtjccdfnhcifgiaaPoly10
import Derived.Test.YtjccdfnhcifgiaaTak1
import Derived.Deep.RegionHeld3
namespace Go.Proofs.Ytjccdfnhcifgiaa
open Go.RowKit
set_option linter.unusedVariables false
set_option maxRecDepth 100000
set_option linter.unusedSimpArgs false

/-- The tag of bytes under a key. -/
def tagV (key b : List UInt8) : Int := accTo (leV (clampL key)) b ((b.length + 15) / 16) + leV (key.drop 16)
def tagS (key b : ByteArray) : ByteArray := put16S (tagV key.data.toList b.data.toList)
theorem tagS_size (key b : ByteArray) : (tagS key b).size = 16 := put16S_size _

theorem addL_val (x y : List Int) (hx : x.length = 5) (hy : y.length = 5) : valN (addL x y 5) = valN x + valN y := by
  obtain ⟨a, b, c, d, e, rfl⟩ := five_of x hx
  obtain ⟨a', b', c', d', e', rfl⟩ := five_of y hy
  rw [show addL [a, b, c, d, e] [a', b', c', d', e'] 5 = [a + a', b + b', c + c', d + d', e + e'] from rfl]
  simp only [valN]
  omega
theorem leV_one (l : List UInt8) (h : l.length ≤ 16) : leV (l ++ [1]) < 1361129467683753853853498429727072845824 := by
  rw [leV_append]
  have b := leV_bd l
  have e : leV [1] = 1 := rfl
  have h2 := pow256_le _ _ h
  rw [show (256 : Int) ^ 16 = 340282366920938463463374607431768211456 from by decide] at h2
  rw [e]
  omega
theorem clamp_lt (l : List UInt8) : leV (clampL l) < 1361129467683753853853498429727072845824 := by
  have b := leV_bd (clampL l)
  rw [clampL_len, show (256 : Int) ^ 16 = 340282366920938463463374607431768211456 from by decide] at b
  omega
theorem one_snoc (a : ByteArray) : (a ++ ⟨#[1]⟩).data.toList = a.data.toList ++ [1] := by simp
theorem extract_take (t : ByteArray) (n : Nat) : (t.extract 0 n).data.toList = t.data.toList.take n := by
  rw [ByteArray.data_extract, Array.toList_extract, List.extract_eq_take_drop]; simp
/-- One group more. -/
theorem acc_step (key b : List UInt8) (s nu rr y : List Int) (k : Nat) (hs : Settled s) (hnl : nu.length = 5) (hsv : valN s % p130 = accTo (leV (clampL key)) b k) (hnv : valN nu = leV (((b.drop (16 * k)).take 16) ++ [1])) (hrv : valN rr = leV (clampL key))
    (hy : valN y % p130 = (valN (addL s nu 5) * valN rr) % p130) : valN y % p130 = accTo (leV (clampL key)) b (k + 1) := by
  rw [hy, addL_val s nu hs.1 hnl, accTo, ← hsv, ← hnv, hrv]
  exact rest_mul _ _ _ _ (by rw [Int.emod_emod_of_dvd _ (Int.dvd_refl _)])

theorem onetime_tag_no (key b : ByteArray) (w : World) (hk : key.size ≠ 32) :
    Calls Try.prog 11 #[.string key, .string b] w fun e w' => e = .returned (.tuple #[.string ⟨#[]⟩, .bool false]) ∧ w = w' := by
  have hc := onetime_clamp_no key w hk
  clear hk
  go_enter Try.func11, Try.ntmps11
  go_wp2_with (first | (go_at_call 12; refine hc.mono ?_; rintro e w' ⟨rfl, rfl⟩))
  go_ret2
  exact ⟨rfl, rfl⟩

/-- An array read whole, as a drawn region meets it. -/
theorem RowIs.loadAll {w : World} {g : Nat} {l : List Int} (h : RowIs w g 37 (cells64 l)) (hl : l.length = 5) :
    (Instr.loadAt 37 (.pointer (some ⟨g, 0, none⟩))).run Try.prog w = .ok (.agg (cells64 l).toArray) w :=
  run_loadAt_mid w g 0 37 (cells64 l) _ h.all Try.underlying37 rfl (by rw [size5, cells64_len, hl])
theorem RowIs.storeAll {w : World} {g : Nat} {l m : List Int} (h : RowIs w g 37 (cells64 l)) (hl : l.length = 5) (hm : m.length = 5) :
    (Instr.storeAt 37 (.pointer (some ⟨g, 0, none⟩)) (.agg (cells64 m).toArray)).run Try.prog w = .ok () (w.setCells g 0 (cells64 m)) := by
  have := run_storeAt_mid (P := Try.prog) w g 0 37 (cells64 m).toArray (h.there (by simp [cells64_len, hl, hm])) (by rw [size5]; simp [cells64_len, hm]) (all_oneCell_toArray (cells64_one m))
  exact this

/-- The operations of 'sum = times(plus(sum, numberOf(b[:n]+1)), r)'. -/
def tagList : List (Option Tmp × Op) :=
  [(some 26, .load 37 (.tmp 9)), (some 27, .move (.tmp 1)), (some 28, .move (.tmp 10)), (some 29, .slice 9 (.tmp 27) none (some (.tmp 28)) none),
   (some 30, .binOp .add 9 (.tmp 29) (.const (.string ⟨#[1]⟩)) 9),
   (some 31, .call { callee := .value (.func 18), args := #[.tmp 30], argTypes := #[9] }),
   (some 32, .call { callee := .value (.func 20), args := #[.tmp 26, .tmp 31], argTypes := #[37, 37] }),
   (some 33, .load 37 (.tmp 8)),
   (some 34, .call { callee := .value (.func 19), args := #[.tmp 32, .tmp 33], argTypes := #[37, 37] }),
   (none, .store 37 (.tmp 9) (.tmp 34))]
def tgL0 : Array Bool := Array.replicate 10 false
def tgL1 : Array Bool := listAll [1, 2, 3, 4] tgL0
def tgL2 : Array Bool := listAll [0, 7] tgL1
def tgL3 : Array Bool := tgL2.setIfInBounds 5 true
def tgL4 : Array Bool := tgL3.setIfInBounds 6 true
def tgL5 : Array Bool := tgL4.setIfInBounds 8 true
def tgL6 : Array Bool := tgL5.setIfInBounds 9 true
def plainOp (ops : Array Oper) (i : Nat) : Bool := (ops[i]?).any fun o => o.guard.isNone
theorem plainOp_spec {ops : Array Oper} {i : Nat} {o : Oper} (h : plainOp ops i = true) (ho : ops[i]? = some o) : o.guard = none := by
  simpa [plainOp, ho] using h
def tagOk (ops : Array Oper) : Bool :=
  ops.size == 10 && Region.noSelect ops && planOk .any ops [1, 2, 3, 4] tgL0 && planOk .any ops [0, 7] tgL1 && ([0, 7].all fun i => awaits .any ops 9 i) && Region.ready .any ops tgL2 == [5] && plainOp ops 5 &&
  Region.ready .any ops tgL3 == [6] && plainOp ops 6 && Region.ready .any ops tgL4 == [8] && plainOp ops 8 && Region.ready .any ops tgL5 == [9] && plainOp ops 9 && Region.ready .any ops tgL6 == []

set_option maxRecDepth 100000 in
set_option maxHeartbeats 1000000 in
theorem tag_region {ops : Array Oper} {id : Nat} {Q : Exit → Act → World → Prop} (hops : kinds ops = tagList) (hok : tagOk ops = true) (hQ : ∀ c a d v w, Q (.panic c) (a.put d v) w → Q (.panic c) a w)
    (g n : Nat) (t ps : ByteArray) (s rr nu u : List Int) (w : World) (a : Act) (hsl : s.length = 5) (hrl : rr.length = 5) (R : List Int → Prop) (hn : n ≤ t.size) (ht : t.size ≤ 4611686018427387904) (hps : t.extract 0 n ++ ⟨#[1]⟩ = ps)
    (HN : ∀ w : World, Calls Try.prog 18 #[.string ps] w fun e w' => e = .returned (.agg (cells64 nu).toArray) ∧ Below w.heap.size w w')
    (HP : ∀ w : World, Calls Try.prog 20 #[.agg (cells64 s).toArray, .agg (cells64 nu).toArray] w fun e w' => e = .returned (.agg (cells64 u).toArray) ∧ Below w.heap.size w w')
    (HT : ∀ w : World, Calls Try.prog 19 #[.agg (cells64 u).toArray, .agg (cells64 rr).toArray] w fun e w' => (∃ y, (y.length = 5 ∧ R y) ∧ e = .returned (.agg (cells64 y).toArray)) ∧ Below w.heap.size w w')
    (q8 : RowIs w g 37 (cells64 rr)) (q9 : RowIs w (g + 1) 37 (cells64 s))
    (hz : a.tmps.size = 43) (h1 : a.eval (.tmp 1) = .string t) (h8 : a.eval (.tmp 8) = .pointer (some ⟨g, 0, none⟩)) (h9 : a.eval (.tmp 9) = .pointer (some ⟨g + 1, 0, none⟩)) (h10 : a.eval (.tmp 10) = .int .i64 (n : Int))
    (K : ∀ y w', y.length = 5 → R y → RowIs w' g 37 (cells64 rr) → RowIs w' (g + 1) 37 (cells64 y) → Upon (g + 1) w w' →
      Q .normal (((((((((a.put (some 27) (.string t)).put (some 28) (.int .i64 (n : Int))).put (some 29) (.string (t.extract 0 n))).put (some 30) (.string ps)).put (some 26) (.agg (cells64 s).toArray)).put (some 33) (.agg (cells64 rr).toArray)).put (some 31) (.agg (cells64 nu).toArray)).put (some 32) (.agg (cells64 u).toArray)).put (some 34) (.agg (cells64 y).toArray)) w') :
    (Code.region id ops true).wp Try.prog Q a w := by
  simp only [tagOk, Bool.and_eq_true, beq_iff_eq] at hok
  obtain ⟨⟨⟨⟨⟨⟨⟨⟨⟨⟨⟨⟨⟨o1, o2⟩, o3⟩, o4⟩, o5⟩, o6⟩, o7⟩, o8⟩, o9⟩, oa⟩, ob⟩, oc⟩, od⟩, oe⟩ := hok
  have hlt : g + 1 < w.heap.size := q9.lt
  have u0 : Upon (g + 1) w w.drew := (Upon.refl (g + 1) w).drew
  have r8 := q8.drew
  have r9 := q9.drew
  have hlt' : g + 1 < w.drew.heap.size := hlt
  clear q8 q9
  generalize hw0 : w.drew = w0 at *
  have hT0 : RowIs w0 g 37 (cells64 rr) ∧ RowIs w0 (g + 1) 37 (cells64 s) := ⟨r8, r9⟩
  refine wp_region_T (n := 10) (fun _ => True) (fun w => RowIs w g 37 (cells64 rr) ∧ RowIs w (g + 1) 37 (cells64 s)) 9 (by kernel_rfl) o1 ?_
  rw [hw0]
  refine wpAnyT_takesS (T := fun w => RowIs w g 37 (cells64 rr) ∧ RowIs w (g + 1) 37 (cells64 s)) o2 hQ [(1, .string t), (2, .int .i64 (n : Int)), (3, .string (t.extract 0 n)), (4, .string ps)] 6 _ a _ _ o3 rfl
    (.cons hops rfl (fun o ho w _ => run_move' ho h1 w)
      (.cons hops rfl (fun o ho w _ => run_move' ho (by simp [eval_put, size_put, hz, h10]) w)
        (.cons hops rfl (fun o ho w _ => run_sliceH' ho (by simp [eval_put, size_put, hz]) (by simp [eval_put, size_put, hz]) Try.underlying9 hn w)
          (.cons hops rfl (fun o ho w _ => by
            have := run_cat' (P := Try.prog) (a := ((a.put (some 27) (.string t)).put (some 28) (.int .i64 (n : Int))).put (some 29) (.string (t.extract 0 n))) ho (s := t.extract 0 n) (r := ⟨#[1]⟩) (by simp [eval_put, size_put, hz]) rfl Try.underlying9 (by
              have e1 : (t.extract 0 n).size = n := by simp; omega
              have e2 : (⟨#[1]⟩ : ByteArray).size = 1 := rfl
              omega) w
            rw [hps] at this
            exact this) .nil)))) True.intro hT0 ?_
  have hcl : ∀ (l : List Int), l.length = 5 → (Try.prog.info? 37).map (·.size) = some (cells64 l).length := fun l h => by rw [size5, cells64_len, h]
  refine wpAnyT_takesT (T := fun w => RowIs w g 37 (cells64 rr) ∧ RowIs w (g + 1) 37 (cells64 s)) o2 hQ [(0, .agg (cells64 s).toArray), (7, .agg (cells64 rr).toArray)] 4 _ _ _ _ o4 o5
    (.cons hops rfl (fun o ho w hw => run_loadM' ho (by simp [eval_put, size_put, hz, h9]) Try.underlying37 rfl (hcl s hsl) w hw.2.2.all)
      (.cons hops rfl (fun o ho w hw => run_loadM' ho (by simp [eval_put, size_put, hz, h8]) Try.underlying37 rfl (hcl rr hrl) w hw.2.1.all) .nil)) True.intro hT0 ?_
  obtain ⟨q5, hq5, hd5, hx5⟩ := kinds_at hops (i := 5) rfl
  refine wpAnyT_step o6 hq5 (plainOp_spec o7 hq5) (by decide) (wp_callE hx5 (vs := #[.string ps]) (by simp [eval_put, size_put, hz]) (by simp [go_sem]) ((HN w0).mono ?_))
  rintro e w1 ⟨rfl, b1⟩
  refine ⟨_, rfl, True.intro, ⟨r8.below b1 (by omega), r9.below b1 (by omega)⟩, ?_⟩
  have p8 := r8.below b1 (by omega)
  have p9 := r9.below b1 (by omega)
  rw [hd5]
  obtain ⟨q6, hq6, hd6, hx6⟩ := kinds_at hops (i := 6) rfl
  refine wpAnyT_step o8 hq6 (plainOp_spec o9 hq6) (by decide) (wp_callE hx6 (vs := #[.agg (cells64 s).toArray, .agg (cells64 nu).toArray]) (by simp [eval_put, size_put, hz]) (by simp [go_sem]) ((HP w1).mono ?_))
  rintro e w2 ⟨rfl, b2⟩
  have l1 : g + 1 < w1.heap.size := p9.lt
  have s8 := p8.below b2 (by omega)
  have s9 := p9.below b2 (by omega)
  refine ⟨_, rfl, True.intro, ⟨s8, s9⟩, ?_⟩
  rw [hd6]
  obtain ⟨q7, hq7, hd7, hx7⟩ := kinds_at hops (i := 8) rfl
  refine wpAnyT_step oa hq7 (plainOp_spec ob hq7) (by decide) (wp_callE hx7 (vs := #[.agg (cells64 u).toArray, .agg (cells64 rr).toArray]) (by simp [eval_put, size_put, hz]) (by simp [go_sem]) ((HT w2).mono ?_))
  rintro e w3 ⟨⟨y, ⟨hy1, hy2⟩, rfl⟩, b3⟩
  have l2 : g + 1 < w2.heap.size := s9.lt
  have v8 := s8.below b3 (by omega)
  have v9 := s9.below b3 (by omega)
  refine ⟨_, rfl, True.intro, ⟨v8, v9⟩, ?_⟩
  rw [hd7]
  obtain ⟨qs, hqs, hds, hxs⟩ := kinds_at hops (i := 9) rfl
  have hly : (cells64 y).length = 5 := by rw [cells64_len, hy1]
  have hls : (cells64 s).length = 5 := by rw [cells64_len, hsl]
  refine wpAnyT_call oc hqs (plainOp_spec od hqs) (wp_store_mid 37 _ _ hxs (g + 1) 0 (cells64 y).toArray (by simp [eval_put, size_put, hz, h9]) (by simp [eval_put, size_put, hz]) (v9.there (by simp [hly, hls])) (by rw [size5]; simp [hly]) (all_oneCell_toArray (cells64_one y)) ⟨True.intro, oe, ?_⟩)
  rw [hds]
  have k1 : RowIs (w3.setCells (g + 1) 0 (cells64 y)) g 37 (cells64 rr) := ((Upon.refl (g + 1) w3).setCells 0 (cells64 y)).row v8 (by omega)
  have k2 : RowIs (w3.setCells (g + 1) 0 (cells64 y)) (g + 1) 37 (cells64 y) := v9.putAll (by rw [hly, hls])
  have k3 : Upon (g + 1) w (w3.setCells (g + 1) 0 (cells64 y)) := ((u0.trans (Upon.of_below b1)).trans (Upon.of_below b2)).trans ((Upon.of_below b3).trans ((Upon.refl (g + 1) w3).setCells 0 (cells64 y)))
  have k := K y (w3.setCells (g + 1) 0 (cells64 y)) hy1 hy2 k1 k2 k3
  have en : ∀ b : Act, b.put none undef = b := fun _ => rfl
  rw [en, show (cells64 y).toArray.toList = cells64 y from rfl]
  exact k

end Go.Proofs.Ytjccdfnhcifgiaa
