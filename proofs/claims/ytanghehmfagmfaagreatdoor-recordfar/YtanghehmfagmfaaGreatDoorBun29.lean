/-
  Parts of this proof, one behind the other: Rec0, Rec1, Rec3.
-/
import Derived.Test.YtanghehmfagmfaaGreatDoorBun21
import Derived.Test.YtanghehmfagmfaaGreatDoorBun28
import Derived.Test.YtanghehmfagmfaaGreatDoorBun4

/-
  Plain mathematics of package record: a record, what it opens to, what waits and what can be told.
-/
namespace Go.Proofs.YtanghehmfagmfaaGreatDoor
set_option linter.unusedVariables false
set_option maxRecDepth 100000
set_option linter.unusedSimpArgs false

/-- A record: its number, and the padded text sealed. -/
def recS (k : ByteArray) (n : Nat) (t : ByteArray) : ByteArray := putBigS (n : Int) 8 ++ sealS (turnR k (n / 8)) (nonceR (n : Int)) (padS t) (putBigS (n : Int) 8)
theorem recS_size (k : ByteArray) (n : Nat) (t : ByteArray) (h : t.size ≤ 2046) : (recS k n t).size = (sizeN (t.size : Int)).toNat + 24 := by
  unfold recS
  rw [ByteArray.size_append, sealS_size, putBigS_size (n : Int) 8 (by decide), padS_size t h]
  show 8 + _ = _
  omega
theorem recS_le (k : ByteArray) (n : Nat) (t : ByteArray) (h : t.size ≤ 2046) : 56 ≤ (recS k n t).size ∧ (recS k n t).size ≤ 2072 := by
  have h1 := recS_size k n t h
  have h2 := sizeN_bd (t.size : Int) (by omega) (by omega)
  have h3 : 32 ≤ sizeN (t.size : Int) := by
    unfold sizeN
    rw [if_neg (by omega)]
    split
    · omega
    · split
      · omega
      · split
        · omega
        · rw [if_pos (by omega)]; omega
  omega
theorem recS_head (k : ByteArray) (n : Nat) (t : ByteArray) : (recS k n t).extract 0 8 = putBigS (n : Int) 8 := by
  have h := cut_left (putBigS (n : Int) 8) (sealS (turnR k (n / 8)) (nonceR (n : Int)) (padS t) (putBigS (n : Int) 8))
  rw [putBigS_size (n : Int) 8 (by decide)] at h
  exact h
theorem recS_rest (k : ByteArray) (n : Nat) (t : ByteArray) : (recS k n t).extract 8 (recS k n t).size = sealS (turnR k (n / 8)) (nonceR (n : Int)) (padS t) (putBigS (n : Int) 8) := by
  have h := cut_right (putBigS (n : Int) 8) (sealS (turnR k (n / 8)) (nonceR (n : Int)) (padS t) (putBigS (n : Int) 8))
  rw [putBigS_size (n : Int) 8 (by decide)] at h
  exact h

/-- The number that a record's first eight bytes tell. -/
def seqN (b : ByteArray) : Nat := (bigS (b.extract 0 8)).toNat
def formR (b : ByteArray) : Bool := decide (24 ≤ b.size ∧ seqN b < 400)
def plainR (k b : ByteArray) : ByteArray := openS (turnR k (seqN b / 8)) (nonceR (seqN b : Int)) (b.extract 8 b.size) (b.extract 0 8)
def sealR (k b : ByteArray) : Bool := openOk (turnR k (seqN b / 8)) (nonceR (seqN b : Int)) (b.extract 8 b.size) (b.extract 0 8)
def openR (k b : ByteArray) : Bool := sealR k b && unpadOk (plainR k b)
def textR (k b : ByteArray) : ByteArray := unpadS (plainR k b)
theorem seqN_is (b : ByteArray) : ((seqN b : Nat) : Int) = bigS (b.extract 0 8) := by
  have := (bigS_bd (b.extract 0 8)).1
  unfold seqN
  omega
theorem seqN_rec (k : ByteArray) (n : Nat) (t : ByteArray) (h : n < 18446744073709551616) : seqN (recS k n t) = n := by
  unfold seqN
  rw [recS_head, big_back (n : Int) (by omega) (by omega)]
  omega
theorem form_rec (k : ByteArray) (n : Nat) (t : ByteArray) (h : t.size ≤ 2046) (hn : n < 400) : formR (recS k n t) = true := by
  have := (recS_le k n t h).1
  exact decide_eq_true ⟨by omega, by rw [seqN_rec k n t (by omega)]; exact hn⟩
theorem open_rec (k : ByteArray) (n : Nat) (t : ByteArray) (h : t.size ≤ 2046) (hn : n < 400) : openR k (recS k n t) = true ∧ textR k (recS k n t) = t := by
  have h1 := open_sealed (turnR k (n / 8)) (nonceR (n : Int)) (padS t) (putBigS (n : Int) 8)
  have h2 := unpad_pad t h
  have e1 : plainR k (recS k n t) = padS t := by
    unfold plainR
    rw [seqN_rec k n t (by omega), recS_head, recS_rest]
    exact h1.2
  have e2 : sealR k (recS k n t) = true := by
    unfold sealR
    rw [seqN_rec k n t (by omega), recS_head, recS_rest]
    exact h1.1
  unfold openR textR
  rw [e1, e2, h2.1, h2.2]
  exact ⟨rfl, rfl⟩
theorem text_size (k b : ByteArray) (h : openR k b = true) : (textR k b).size ≤ 2046 := by
  have h2 : unpadOk (plainR k b) = true := by
    unfold openR at h
    exact (Bool.and_eq_true_iff.1 h).2
  exact of_decide_eq_true (pad_unpad _ h2).1

/-- What waits: the numbers and their texts, in the order in which they came. -/
abbrev Wait := List (Nat × ByteArray)
def hasW (W : Wait) (n : Nat) : Bool := decide (n ∈ W.map Prod.fst)
def atW (W : Wait) (n : Nat) : Nat := (W.map Prod.fst).idxOf n
def tellW : Nat → Nat → Wait → List ByteArray × Nat × Wait
  | 0, n, W => ([], n, W)
  | f + 1, n, W => if hasW W n then (((W.getD (atW W n) (0, ⟨#[]⟩)).2 :: (tellW f (n + 1) (W.eraseIdx (atW W n))).1), (tellW f (n + 1) (W.eraseIdx (atW W n))).2) else ([], n, W)
/-- A direction's other side: the key, the first number that was not told, what waits. -/
structure InS where
  key : ByteArray
  next : Nat
  W : Wait
def InS.zero (k : ByteArray) : InS := ⟨k, 0, []⟩
def oldR (s : InS) (b : ByteArray) : Bool := decide (seqN b < s.next ∨ s.next + 64 ≤ seqN b) || hasW s.W (seqN b)
def errR (s : InS) (b : ByteArray) : Nat := if formR b then if oldR s b then 4 else if openR s.key b then 0 else 3 else 2
def moreR (s : InS) (b : ByteArray) : List ByteArray × Nat × Wait := tellW (s.W.length + 1) s.next (s.W ++ [(seqN b, textR s.key b)])
def outR (s : InS) (b : ByteArray) : List ByteArray := if errR s b = 0 then (moreR s b).1 else []
def stepR (s : InS) (b : ByteArray) : InS := if errR s b = 0 then ⟨s.key, (moreR s b).2.1, (moreR s b).2.2⟩ else s
theorem stepR_key (s : InS) (b : ByteArray) : (stepR s b).key = s.key := by unfold stepR; split <;> rfl
theorem step_no {s : InS} {b : ByteArray} (h : errR s b ≠ 0) : outR s b = [] ∧ stepR s b = s := by
  unfold outR stepR
  rw [if_neg h, if_neg h]
  exact ⟨rfl, rfl⟩
theorem step_yes {s : InS} {b : ByteArray} (h : errR s b = 0) : outR s b = (moreR s b).1 ∧ stepR s b = ⟨s.key, (moreR s b).2.1, (moreR s b).2.2⟩ := by
  unfold outR stepR
  rw [if_pos h, if_pos h]
  exact ⟨rfl, rfl⟩
theorem err_form {s : InS} {b : ByteArray} (h : formR b = false) : errR s b = 2 := by unfold errR; rw [h]; rfl
theorem err_old {s : InS} {b : ByteArray} (h : formR b = true) (h2 : oldR s b = true) : errR s b = 4 := by unfold errR; rw [h, h2]; rfl
theorem err_seal {s : InS} {b : ByteArray} (h : formR b = true) (h2 : oldR s b = false) (h3 : openR s.key b = false) : errR s b = 3 := by unfold errR; rw [h, h2, h3]; rfl
theorem err_ok {s : InS} {b : ByteArray} (h : formR b = true) (h2 : oldR s b = false) (h3 : openR s.key b = true) : errR s b = 0 := by unfold errR; rw [h, h2, h3]; rfl
theorem err_zero {s : InS} {b : ByteArray} (h : errR s b = 0) : formR b = true ∧ oldR s b = false ∧ openR s.key b = true := by
  unfold errR at h
  split at h
  · rename_i h1
    split at h
    · omega
    · rename_i h2
      split at h
      · rename_i h3
        exact ⟨h1, by simpa using h2, h3⟩
      · omega
  · omega
theorem err_cases (s : InS) (b : ByteArray) : errR s b = 2 ∧ formR b = false ∨ errR s b = 4 ∧ formR b = true ∧ oldR s b = true ∨ errR s b = 3 ∧ formR b = true ∧ oldR s b = false ∧ openR s.key b = false ∨ errR s b = 0 ∧ formR b = true ∧ oldR s b = false ∧ openR s.key b = true := by
  cases h1 : formR b with
  | false => exact Or.inl ⟨err_form h1, rfl⟩
  | true =>
    cases h2 : oldR s b with
    | true => exact Or.inr (Or.inl ⟨err_old h1 h2, rfl, rfl⟩)
    | false =>
      cases h3 : openR s.key b with
      | false => exact Or.inr (Or.inr (Or.inl ⟨err_seal h1 h2 h3, rfl, rfl, rfl⟩))
      | true => exact Or.inr (Or.inr (Or.inr ⟨err_ok h1 h2 h3, rfl, rfl, rfl⟩))

theorem hasW_iff (W : Wait) (n : Nat) : hasW W n = true ↔ ∃ p ∈ W, p.1 = n := by
  unfold hasW
  rw [decide_eq_true_iff, List.mem_map]
theorem atW_lt {W : Wait} {n : Nat} (h : hasW W n = true) : atW W n < W.length := by
  unfold hasW at h
  have := List.idxOf_lt_length_iff.2 (of_decide_eq_true h)
  simpa [atW] using this
theorem atW_is {W : Wait} {n : Nat} (h : hasW W n = true) : (W.getD (atW W n) (0, ⟨#[]⟩)).1 = n := by
  have hl := atW_lt h
  have e : (W.map Prod.fst)[atW W n]'(by simpa using hl) = n := List.getElem_idxOf _
  rw [List.getElem_map] at e
  rw [List.getD_eq_getElem?_getD, List.getElem?_eq_getElem hl]
  exact e
theorem atW_mem {W : Wait} {n : Nat} (h : hasW W n = true) : W.getD (atW W n) (0, ⟨#[]⟩) ∈ W := by
  have hl := atW_lt h
  rw [List.getD_eq_getElem?_getD, List.getElem?_eq_getElem hl]
  exact List.getElem_mem _
theorem keys_erase : ∀ (W : Wait) (i : Nat), (W.eraseIdx i).map Prod.fst = (W.map Prod.fst).eraseIdx i
  | [], _ => rfl
  | _ :: _, 0 => rfl
  | p :: W, i + 1 => by
    rw [List.eraseIdx_cons_succ, List.map_cons, List.map_cons, List.eraseIdx_cons_succ, keys_erase W i]
/-- What is left when one goes: all others. -/
theorem erase_mem {W : Wait} {n : Nat} (hd : (W.map Prod.fst).Nodup) (h : hasW W n = true) (p : Nat × ByteArray) : p ∈ W.eraseIdx (atW W n) ↔ p ∈ W ∧ p.1 ≠ n := by
  have hk : (W.map Prod.fst).eraseIdx (atW W n) = (W.map Prod.fst).erase n := by
    unfold atW
    rw [List.erase_eq_eraseIdx_of_idxOf rfl]
  constructor
  · intro hp
    refine ⟨List.mem_of_mem_eraseIdx hp, fun e => ?_⟩
    have h1 : p.1 ∈ (W.eraseIdx (atW W n)).map Prod.fst := List.mem_map_of_mem hp
    rw [keys_erase, hk, e] at h1
    exact (List.Nodup.not_mem_erase hd) h1
  · rintro ⟨hp, hne⟩
    obtain ⟨i, hi, e⟩ := List.getElem_of_mem hp
    rw [List.mem_eraseIdx_iff_getElem]
    refine ⟨i, hi, fun hii => hne ?_, e⟩
    have := atW_is h
    rw [← hii, List.getD_eq_getElem?_getD, List.getElem?_eq_getElem hi] at this
    rw [← e]
    exact this
theorem erase_nodup {W : Wait} (i : Nat) (hd : (W.map Prod.fst).Nodup) : ((W.eraseIdx i).map Prod.fst).Nodup := by
  rw [keys_erase]
  exact hd.sublist (List.eraseIdx_sublist _ _)

/-- What can be told, told: the texts T of the numbers from n up to the first that is missing. -/
theorem tellW_spec (T : Nat → ByteArray) : ∀ (f n : Nat) (W : Wait), W.length ≤ f → (W.map Prod.fst).Nodup → (∀ p ∈ W, n ≤ p.1 ∧ p.2 = T p.1) →
    n ≤ (tellW f n W).2.1 ∧ (tellW f n W).1 = (List.range ((tellW f n W).2.1 - n)).map (fun j => T (n + j)) ∧ (∀ p, p ∈ (tellW f n W).2.2 ↔ p ∈ W ∧ (tellW f n W).2.1 ≤ p.1) ∧
    (∀ j, n ≤ j → j < (tellW f n W).2.1 → ∃ p ∈ W, p.1 = j) ∧ (∀ p ∈ W, p.1 ≠ (tellW f n W).2.1) ∧ ((tellW f n W).2.2.map Prod.fst).Nodup
  | 0, n, W, hl, hd, hT => by
    have hW : W = [] := List.eq_nil_of_length_eq_zero (by omega)
    subst hW
    refine ⟨Nat.le_refl _, by simp [tellW], fun p => ⟨fun h => ?_, fun h => ?_⟩, fun j h1 h2 => ?_, fun p h => ?_, List.nodup_nil⟩
    · simp [tellW] at h
    · exact h.1
    · have : (tellW 0 n []).2.1 = n := rfl
      omega
    · cases h
  | f + 1, n, W, hl, hd, hT => by
    unfold tellW
    by_cases hh : hasW W n = true
    · rw [if_pos hh]
      have hat := atW_lt hh
      have hi := atW_is hh
      have hm := atW_mem hh
      have he := erase_mem hd hh
      have hle : (W.eraseIdx (atW W n)).length ≤ f := by rw [List.length_eraseIdx, if_pos hat]; omega
      obtain ⟨r1, r2, r3, r4, r5, r6⟩ := tellW_spec T f (n + 1) (W.eraseIdx (atW W n)) hle (erase_nodup _ hd) (fun p hp => by
        obtain ⟨h1, h2⟩ := (he p).1 hp
        have := hT p h1
        exact ⟨by omega, this.2⟩)
      generalize tellW f (n + 1) (W.eraseIdx (atW W n)) = R at *
      refine ⟨by show n ≤ R.2.1; omega, ?_, fun p => ?_, fun j h1 h2 => ?_, fun p hp => ?_, r6⟩
      · show _ :: R.1 = (List.range (R.2.1 - n)).map _
        rw [show R.2.1 - n = (R.2.1 - (n + 1)) + 1 by omega, List.range_succ_eq_map, List.map_cons, List.map_map, r2, (hT _ hm).2, hi, Nat.add_zero]
        congr 1
        apply List.map_congr_left
        intro j _
        show T (n + 1 + j) = T (n + (j + 1))
        congr 1
        omega
      · show p ∈ R.2.2 ↔ p ∈ W ∧ R.2.1 ≤ p.1
        rw [r3, he]
        constructor
        · rintro ⟨⟨h1, _⟩, h2⟩; exact ⟨h1, h2⟩
        · rintro ⟨h1, h2⟩; exact ⟨⟨h1, by omega⟩, h2⟩
      · by_cases e : j = n
        · exact ⟨_, hm, by rw [hi, e]⟩
        · obtain ⟨p, hp, hpj⟩ := r4 j (by omega) h2
          exact ⟨p, ((he p).1 hp).1, hpj⟩
      · show p.1 ≠ R.2.1
        by_cases e : p.1 = n
        · omega
        · exact r5 p ((he p).2 ⟨hp, e⟩)
    · have hh2 : hasW W n = false := by simpa using hh
      rw [if_neg hh]
      refine ⟨Nat.le_refl _, by simp, fun p => ⟨fun h => ⟨h, (hT p h).1⟩, fun h => h.1⟩, fun j h1 h2 => absurd h1 (by show ¬ n ≤ j; have : j < n := h2; omega), fun p hp e => hh ((hasW_iff W n).2 ⟨p, hp, e⟩), hd⟩

/-- What stands between calls. -/
structure InS.Ok (s : InS) : Prop where
  nodup : (s.W.map Prod.fst).Nodup
  range : ∀ p ∈ s.W, s.next < p.1 ∧ p.1 < s.next + 64 ∧ p.1 < 400 ∧ p.2.size ≤ 2046
  next : s.next ≤ 400
theorem InS.ok_zero (k : ByteArray) : (InS.zero k).Ok := ⟨List.nodup_nil, fun p h => (by cases h), Nat.zero_le _⟩
/-- The texts of what waits, by their numbers. -/
def tOf (W : Wait) (n : Nat) : ByteArray := (W.getD (atW W n) (0, ⟨#[]⟩)).2
theorem tOf_is {W : Wait} (hd : (W.map Prod.fst).Nodup) {p : Nat × ByteArray} (hp : p ∈ W) : p.2 = tOf W p.1 := by
  have hh : hasW W p.1 = true := (hasW_iff W p.1).2 ⟨p, hp, rfl⟩
  obtain ⟨i, hi, e⟩ := List.getElem_of_mem hp
  have h1 := atW_lt hh
  have h2 := atW_is hh
  have e2 : i = atW W p.1 := by
    refine (List.getElem_inj (h₀ := by simpa using hi) (h₁ := by simpa using h1) hd).1 ?_
    rw [List.getElem_map, List.getElem_map, e]
    rw [List.getD_eq_getElem?_getD, List.getElem?_eq_getElem h1] at h2
    exact h2.symm
  unfold tOf
  rw [← e2, List.getD_eq_getElem?_getD, List.getElem?_eq_getElem hi, e]
  rfl
theorem old_no {s : InS} {b : ByteArray} (h : oldR s b = false) : s.next ≤ seqN b ∧ seqN b < s.next + 64 ∧ ∀ p ∈ s.W, p.1 ≠ seqN b := by
  unfold oldR at h
  obtain ⟨h1, h2⟩ := Bool.or_eq_false_iff.1 h
  have h1 := of_decide_eq_false h1
  refine ⟨by omega, by omega, fun p hp e => ?_⟩
  have := (hasW_iff s.W (seqN b)).2 ⟨p, hp, e⟩
  rw [this] at h2
  cases h2
theorem old_is {s : InS} {b : ByteArray} (h1 : s.next ≤ seqN b) (h2 : seqN b < s.next + 64) (h3 : ∀ p ∈ s.W, p.1 ≠ seqN b) : oldR s b = false := by
  unfold oldR
  rw [decide_eq_false (by omega), Bool.false_or]
  cases hh : hasW s.W (seqN b) with
  | false => rfl
  | true =>
    obtain ⟨p, hp, e⟩ := (hasW_iff _ _).1 hh
    exact absurd e (h3 p hp)
/-- One more that waits. -/
theorem more_nodup {s : InS} (h : s.Ok) {b : ByteArray} (ho : oldR s b = false) (t : ByteArray) : ((s.W ++ [(seqN b, t)]).map Prod.fst).Nodup := by
  obtain ⟨_, _, h3⟩ := old_no ho
  rw [List.map_append, List.nodup_append]
  refine ⟨h.nodup, by simp, ?_⟩
  intro x hx y hy e
  obtain ⟨p, hp, rfl⟩ := List.mem_map.1 hx
  simp at hy
  exact h3 p hp (e.trans hy)
theorem InS.Ok.step {s : InS} (h : s.Ok) (b : ByteArray) : (stepR s b).Ok := by
  by_cases he : errR s b = 0
  · obtain ⟨hf, ho, hopen⟩ := err_zero he
    obtain ⟨h1, h2, h3⟩ := old_no ho
    have hseq : seqN b < 400 := (of_decide_eq_true hf).2
    have hnd := more_nodup h ho (textR s.key b)
    obtain ⟨r1, _, r3, r4, r5, r6⟩ := tellW_spec (tOf (s.W ++ [(seqN b, textR s.key b)])) (s.W.length + 1) s.next (s.W ++ [(seqN b, textR s.key b)]) (by simp) hnd (fun p hp => ⟨by
      rcases List.mem_append.1 hp with hp | hp
      · have := h.range p hp; omega
      · simp at hp; subst hp; exact h1, tOf_is hnd hp⟩)
    have htx := text_size s.key b hopen
    rw [(step_yes he).2]
    unfold moreR
    clear hf ho hopen he
    generalize textR s.key b = t at *
    generalize seqN b = x at *
    generalize tellW (s.W.length + 1) s.next (s.W ++ [(x, t)]) = R at *
    refine ⟨r6, fun p hp => ?_, ?_⟩
    · show R.2.1 < p.1 ∧ p.1 < R.2.1 + 64 ∧ _
      obtain ⟨hp1, hp2⟩ := (r3 p).1 hp
      have hne := r5 p hp1
      rcases List.mem_append.1 hp1 with hp1 | hp1
      · have := h.range p hp1
        exact ⟨by omega, by omega, this.2.2.1, this.2.2.2⟩
      · simp at hp1
        subst hp1
        have q1 : R.2.1 ≤ x := hp2
        have q2 : x ≠ R.2.1 := hne
        exact ⟨by show R.2.1 < x; omega, by show x < R.2.1 + 64; omega, hseq, htx⟩
    · show R.2.1 ≤ 400
      by_cases e : R.2.1 = s.next
      · rw [e]; exact h.next
      · obtain ⟨p, hp, hpj⟩ := r4 (R.2.1 - 1) (by omega) (by omega)
        rcases List.mem_append.1 hp with hp | hp
        · have := h.range p hp; omega
        · simp at hp; subst hp
          have : x = R.2.1 - 1 := hpj
          omega
  · rw [(step_no he).2]; exact h

end Go.Proofs.YtanghehmfagmfaaGreatDoor

/-
  Records that come in order, or in any order: what is told.
-/
namespace Go.Proofs.YtanghehmfagmfaaGreatDoor
set_option linter.unusedVariables false
set_option maxRecDepth 100000
set_option linter.unusedSimpArgs false

theorem tellW_one (n : Nat) (t : ByteArray) : tellW 1 n [(n, t)] = ([t], n + 1, []) := by
  have h1 : hasW [(n, t)] n = true := (hasW_iff _ _).2 ⟨(n, t), List.mem_singleton.2 rfl, rfl⟩
  have h2 : atW [(n, t)] n = 0 := by simp [atW]
  unfold tellW
  rw [if_pos h1, h2]
  rfl
/-- The next one comes, and nothing waits. -/
theorem step_next (s : InS) (t : ByteArray) (hW : s.W = []) (ht : t.size ≤ 2046) (hn : s.next < 400) : errR s (recS s.key s.next t) = 0 ∧ outR s (recS s.key s.next t) = [t] ∧ stepR s (recS s.key s.next t) = ⟨s.key, s.next + 1, []⟩ := by
  have hq := seqN_rec s.key s.next t (by omega)
  have ho : oldR s (recS s.key s.next t) = false := old_is (by omega) (by omega) (by rw [hW]; intro p hp; cases hp)
  obtain ⟨h1, h2⟩ := open_rec s.key s.next t ht hn
  have he := err_ok (form_rec s.key s.next t ht hn) ho h1
  obtain ⟨e1, e2⟩ := step_yes he
  have e3 : moreR s (recS s.key s.next t) = ([t], s.next + 1, []) := by
    unfold moreR
    rw [hW, hq, h2]
    exact tellW_one s.next t
  rw [e1, e2, e3]
  exact ⟨he, rfl, rfl⟩

/-- Of the records of the texts T those of the numbers D have come. -/
structure InS.Ord (s : InS) (k : ByteArray) (T : Nat → ByteArray) (D : Nat → Prop) : Prop where
  ok : s.Ok
  key : s.key = k
  low : ∀ j, j < s.next → D j
  out : ¬ D s.next
  wait : ∀ p ∈ s.W, D p.1 ∧ p.2 = T p.1
  all : ∀ j, D j → j < s.next ∨ ∃ p ∈ s.W, p.1 = j
theorem InS.ord_zero (k : ByteArray) (T : Nat → ByteArray) : (InS.zero k).Ord k T (fun _ => False) := ⟨InS.ok_zero k, rfl, fun j h => absurd h (Nat.not_lt_zero _), fun h => h, fun p h => (by cases h), fun j h => h.elim⟩
theorem InS.Ord.again {s : InS} {k : ByteArray} {T : Nat → ByteArray} {D : Nat → Prop} (h : s.Ord k T D) (x : Nat) (t : ByteArray) (hx : D x) (h4 : x < 400) (ht : t.size ≤ 2046) : errR s (recS k x t) = 4 := by
  refine err_old (form_rec k x t ht h4) ?_
  have hq := seqN_rec k x t (by omega)
  unfold oldR
  rw [hq]
  rcases h.all x hx with hl | ⟨p, hp, e⟩
  · rw [decide_eq_true (Or.inl hl)]; rfl
  · rw [(hasW_iff s.W x).2 ⟨p, hp, e⟩, Bool.or_true]
theorem InS.Ord.far {s : InS} {k : ByteArray} {T : Nat → ByteArray} {D : Nat → Prop} (h : s.Ord k T D) (x : Nat) (t : ByteArray) (hx : s.next + 64 ≤ x) (h4 : x < 400) (ht : t.size ≤ 2046) : errR s (recS k x t) = 4 := by
  refine err_old (form_rec k x t ht h4) ?_
  have hq := seqN_rec k x t (by omega)
  unfold oldR
  rw [hq, decide_eq_true (Or.inr hx)]; rfl
theorem InS.Ord.step {s : InS} {k : ByteArray} {T : Nat → ByteArray} {D : Nat → Prop} (h : s.Ord k T D) (x : Nat) (hx : ¬ D x) (hx2 : x < s.next + 64) (h4 : x < 400) (hT : (T x).size ≤ 2046) :
    errR s (recS k x (T x)) = 0 ∧ s.next ≤ (stepR s (recS k x (T x))).next ∧ outR s (recS k x (T x)) = (List.range ((stepR s (recS k x (T x))).next - s.next)).map (fun j => T (s.next + j)) ∧ (stepR s (recS k x (T x))).Ord k T (fun j => D j ∨ j = x) := by
  obtain ⟨hok, hkey, hlow, hout, hwait, hall⟩ := h
  subst hkey
  have hq := seqN_rec s.key x (T x) (by omega)
  have hnx : s.next ≤ x := Nat.le_of_not_lt fun hl => hx (hlow x hl)
  have ho : oldR s (recS s.key x (T x)) = false := old_is (by omega) (by omega) (fun p hp e => hx (by rw [hq] at e; rw [← e]; exact (hwait p hp).1))
  obtain ⟨h1, h2⟩ := open_rec s.key x (T x) hT h4
  have he := err_ok (form_rec s.key x (T x) hT h4) ho h1
  obtain ⟨e1, e2⟩ := step_yes he
  have hstep := hok.step (recS s.key x (T x))
  have hnd := more_nodup hok ho (textR s.key (recS s.key x (T x)))
  rw [e2] at hstep
  rw [e1, e2]
  unfold moreR at *
  rw [hq, h2] at *
  obtain ⟨r1, r2, r3, r4, r5, r6⟩ := tellW_spec T (s.W.length + 1) s.next (s.W ++ [(x, T x)]) (by simp) hnd (fun p hp => by
    rcases List.mem_append.1 hp with hp | hp
    · exact ⟨by have := hok.range p hp; omega, (hwait p hp).2⟩
    · simp at hp; subst hp; exact ⟨hnx, rfl⟩)
  generalize tellW (s.W.length + 1) s.next (s.W ++ [(x, T x)]) = R at *
  have hmem : ∀ p, p ∈ s.W ++ [(x, T x)] → D p.1 ∨ p.1 = x := fun p hp => by
    rcases List.mem_append.1 hp with hp | hp
    · exact Or.inl (hwait p hp).1
    · simp at hp; subst hp; exact Or.inr rfl
  refine ⟨he, r1, r2, hstep, rfl, fun j hj => ?_, fun hD => ?_, fun p hp => ?_, fun j hD => ?_⟩
  · by_cases e : j < s.next
    · exact Or.inl (hlow j e)
    · obtain ⟨p, hp, hpj⟩ := r4 j (by omega) hj
      rw [← hpj]
      exact hmem p hp
  · have hR : D R.2.1 ∨ R.2.1 = x := hD
    rcases hR with hD | hD
    · rcases hall _ hD with hl | ⟨p, hp, e⟩
      · omega
      · exact r5 p (List.mem_append_left _ hp) e
    · exact r5 (x, T x) (List.mem_append_right _ (List.mem_singleton.2 rfl)) hD.symm
  · obtain ⟨hp1, hp2⟩ := (r3 p).1 hp
    refine ⟨hmem p hp1, ?_⟩
    rcases List.mem_append.1 hp1 with hp1 | hp1
    · exact (hwait p hp1).2
    · simp at hp1; subst hp1; rfl
  · show j < R.2.1 ∨ ∃ p ∈ R.2.2, p.1 = j
    by_cases e : j < R.2.1
    · exact Or.inl e
    · refine Or.inr ?_
      rcases hD with hD | hD
      · rcases hall j hD with hl | ⟨p, hp, ep⟩
        · omega
        · exact ⟨p, (r3 p).2 ⟨List.mem_append_left _ hp, by omega⟩, ep⟩
      · exact ⟨(x, T x), (r3 _).2 ⟨List.mem_append_right _ (List.mem_singleton.2 rfl), by show R.2.1 ≤ x; omega⟩, hD.symm⟩
/-- All have come: all are told. -/
theorem InS.Ord.done {s : InS} {k : ByteArray} {T : Nat → ByteArray} {D : Nat → Prop} (h : s.Ord k T D) (n : Nat) (hD : ∀ j, D j ↔ j < n) : s.next = n ∧ s.W = [] := by
  have h1 : s.next ≤ n := by
    by_cases e : s.next = 0
    · omega
    · have := (hD _).1 (h.low (s.next - 1) (by omega)); omega
  have h2 : ¬ s.next < n := fun hl => h.out ((hD _).2 hl)
  refine ⟨by omega, ?_⟩
  cases hW : s.W with
  | nil => rfl
  | cons p r =>
    have hp : p ∈ s.W := by rw [hW]; exact List.mem_cons_self ..
    have h3 := (hD _).1 (h.wait p hp).1
    have h4 := (h.ok.range p hp).1
    omega

end Go.Proofs.YtanghehmfagmfaaGreatDoor

/-
  Single histories: the one that alive tries, and one record far ahead.
-/
namespace Go.Proofs.YtanghehmfagmfaaGreatDoor
set_option linter.unusedVariables false
set_option maxRecDepth 100000
set_option linter.unusedSimpArgs false

theorem alive13_s (k a b : ByteArray) (ha : a.size ≤ 2046) (hb : b.size ≤ 2046) :
    errR (InS.zero k) (recS k 1 b) = 0 ∧ outR (InS.zero k) (recS k 1 b) = [] ∧ errR (stepR (InS.zero k) (recS k 1 b)) (recS k 0 a) = 0 ∧ outR (stepR (InS.zero k) (recS k 1 b)) (recS k 0 a) = [a, b] ∧
    (stepR (stepR (InS.zero k) (recS k 1 b)) (recS k 0 a)).next = 2 ∧ errR (stepR (stepR (InS.zero k) (recS k 1 b)) (recS k 0 a)) (recS k 0 a) = 4 := by
  obtain ⟨T, hT⟩ : ∃ T : Nat → ByteArray, T = fun j => if j = 0 then a else b := ⟨_, rfl⟩
  have t0 : T 0 = a := by rw [hT]; rfl
  have t1 : T 1 = b := by rw [hT]; rfl
  have h0 := InS.ord_zero k T
  obtain ⟨e1, n1, o1, O1⟩ := h0.step 1 (fun h => h) (by show 1 < 0 + 64; omega) (by omega) (by rw [t1]; exact hb)
  rw [t1] at e1 n1 o1 O1
  have z1 : (stepR (InS.zero k) (recS k 1 b)).next = 0 := by
    rcases Nat.eq_zero_or_pos (stepR (InS.zero k) (recS k 1 b)).next with h | h
    · exact h
    · rcases O1.low 0 h with h | h
      · exact h.elim
      · omega
  rw [z1] at o1
  obtain ⟨e2, n2, o2, O2⟩ := O1.step 0 (fun h => by rcases h with h | h; exact h; omega) (by omega) (by omega) (by rw [t0]; exact ha)
  rw [t0] at e2 n2 o2 O2
  have d := (O2.done 2 (fun j => ⟨fun h => by rcases h with (h | h) | h; exact h.elim; omega; omega, fun h => by
    rcases Nat.eq_zero_or_pos j with h0 | h0
    · exact Or.inr h0
    · exact Or.inl (Or.inr (by omega))⟩)).1
  refine ⟨e1, o1, e2, ?_, d, O2.again 0 a (Or.inr rfl) (by omega) ha⟩
  rw [o2, d, z1]
  show [T (0 + 0), T (0 + 1)] = [a, b]
  rw [t0, t1]

theorem ord_at (k : ByteArray) (T : Nat → ByteArray) (m : Nat) (hm : m ≤ 400) : (⟨k, m, []⟩ : InS).Ord k T (fun j => j < m) :=
  ⟨⟨List.nodup_nil, fun p h => (by cases h), hm⟩, rfl, fun j h => h, fun h => absurd h (Nat.lt_irrefl _), fun p h => (by cases h), fun j h => Or.inl h⟩
theorem one_key {n : Nat} : ∀ {W : Wait}, (W.map Prod.fst).Nodup → (∀ p ∈ W, p.1 = n) → (∃ p ∈ W, p.1 = n) → W.length = 1
  | [], _, _, h => by obtain ⟨p, hp, _⟩ := h; cases hp
  | [p], _, _, _ => rfl
  | p :: q :: r, hd, ha, _ => by
    have h1 := ha p (List.mem_cons_self ..)
    have h2 := ha q (List.mem_cons_of_mem _ (List.mem_cons_self ..))
    rw [List.map_cons, List.map_cons, List.nodup_cons] at hd
    exact absurd (by rw [h1, h2]; exact List.mem_cons_self ..) hd.1
/-- All up to m were told; one ahead comes. -/
theorem step_ahead (k t : ByteArray) (m x : Nat) (h1 : m < x) (h2 : x < m + 64) (h3 : x < 400) (ht : t.size ≤ 2046) :
    errR ⟨k, m, []⟩ (recS k x t) = 0 ∧ outR ⟨k, m, []⟩ (recS k x t) = [] ∧ (stepR ⟨k, m, []⟩ (recS k x t)).next = m ∧ (stepR ⟨k, m, []⟩ (recS k x t)).W.length = 1 := by
  have h0 := ord_at k (fun _ => t) m (by omega)
  obtain ⟨e1, n1, o1, O1⟩ := h0.step x (by show ¬ x < m; omega) (by show x < m + 64; omega) h3 ht
  have n1' : m ≤ (stepR ⟨k, m, []⟩ (recS k x t)).next := n1
  have z1 : (stepR ⟨k, m, []⟩ (recS k x t)).next = m := by
    by_cases h : m < (stepR ⟨k, m, []⟩ (recS k x t)).next
    · rcases O1.low m h with h | h
      · have : m < m := h; omega
      · omega
    · omega
  have o1' : outR ⟨k, m, []⟩ (recS k x t) = (List.range ((stepR ⟨k, m, []⟩ (recS k x t)).next - m)).map (fun j => t) := o1
  refine ⟨e1, by rw [o1', z1, Nat.sub_self]; rfl, z1, one_key (n := x) O1.ok.nodup (fun p hp => ?_) ?_⟩
  · rcases (O1.wait p hp).1 with h | h
    · have h4 := (O1.ok.range p hp).1
      rw [z1] at h4
      have : p.1 < m := h
      omega
    · exact h
  · rcases O1.all x (Or.inr rfl) with h | h
    · rw [z1] at h; omega
    · exact h
theorem far_no (k t : ByteArray) (x : Nat) (h1 : 64 ≤ x) (h3 : x < 400) (ht : t.size ≤ 2046) : errR (InS.zero k) (recS k x t) = 4 ∧ outR (InS.zero k) (recS k x t) = [] ∧ stepR (InS.zero k) (recS k x t) = InS.zero k := by
  have e := (InS.ord_zero k (fun _ => t)).far x t (by show 0 + 64 ≤ x; omega) h3 ht
  obtain ⟨e1, e2⟩ := step_no (s := InS.zero k) (b := recS k x t) (by omega)
  exact ⟨e, e1, e2⟩
/-- In order: each is told at once. -/
theorem step_at (k t : ByteArray) (m : Nat) (h3 : m < 400) (ht : t.size ≤ 2046) : errR ⟨k, m, []⟩ (recS k m t) = 0 ∧ outR ⟨k, m, []⟩ (recS k m t) = [t] ∧ stepR ⟨k, m, []⟩ (recS k m t) = ⟨k, m + 1, []⟩ := step_next ⟨k, m, []⟩ t rfl ht h3

/-- Bytes of another form, and a number that may not be. -/
theorem few_no (s : InS) (b : ByteArray) (h : b.size < 24) : errR s b = 2 := err_form (decide_eq_false (by omega))
theorem num_no (s : InS) (b : ByteArray) (h : 400 ≤ seqN b) : errR s b = 2 := err_form (decide_eq_false (by omega))

end Go.Proofs.YtanghehmfagmfaaGreatDoor
