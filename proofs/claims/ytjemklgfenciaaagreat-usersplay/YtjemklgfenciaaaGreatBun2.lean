/-
  Parts of this proof, one behind the other: Usr0, Usr2.
-/
import Derived.Test.YtjemklgfenciaaaGreatProg

/-
  Plain mathematics of package users: who may be, failures, lockouts.
-/
namespace Go.Proofs.YtjemklgfenciaaaGreat
set_option linter.unusedVariables false
set_option maxRecDepth 100000
set_option linter.unusedSimpArgs false

/-- A user: what was told, and what was counted. -/
structure Usr where
  name : ByteArray
  secret : ByteArray
  fails : Nat
  locked : Bool
  till : Int
def usrNone : Usr := ⟨⟨#[]⟩, ⟨#[]⟩, 0, false, 0⟩
def nameOkU (s : ByteArray) : Bool := decide (1 ≤ s.size ∧ s.size ≤ 20) && s.data.toList.all (fun b => decide (33 ≤ b.toNat ∧ b.toNat ≤ 126))
def userOkU (n s : ByteArray) : Bool := nameOkU n && decide (s.size = 32)
def namesU (B : List Usr) : List ByteArray := B.map Usr.name
def idxL : List ByteArray → ByteArray → Nat
  | [], _ => 0
  | x :: r, n => if x = n then 0 else idxL r n + 1
def hasL : List ByteArray → ByteArray → Bool
  | [], _ => false
  | x :: r, n => if x = n then true else hasL r n
theorem hasL_iff : ∀ (l : List ByteArray) (n : ByteArray), hasL l n = true ↔ n ∈ l
  | [], n => by simp [hasL]
  | x :: r, n => by
    unfold hasL
    by_cases h : x = n
    · rw [if_pos h]; simp [h]
    · rw [if_neg h, hasL_iff r n, List.mem_cons]
      exact ⟨Or.inr, fun hh => by rcases hh with hh | hh; exact absurd hh.symm h; exact hh⟩
theorem idxL_at : ∀ (l : List ByteArray) (n : ByteArray), hasL l n = true → l[idxL l n]? = some n
  | [], n, h => by simp [hasL] at h
  | x :: r, n, h => by
    unfold hasL at h
    unfold idxL
    by_cases e : x = n
    · rw [if_pos e, e]; rfl
    · rw [if_neg e] at h ⊢
      rw [List.getElem?_cons_succ]
      exact idxL_at r n h
def nodupL : List ByteArray → Bool
  | [] => true
  | x :: r => !hasL r x && nodupL r
theorem nodupL_iff : ∀ l : List ByteArray, nodupL l = true ↔ l.Nodup
  | [] => by simp [nodupL]
  | x :: r => by
    unfold nodupL
    rw [List.nodup_cons, Bool.and_eq_true, nodupL_iff r, Bool.not_eq_true', ← hasL_iff]
    simp
def idxU (B : List Usr) (n : ByteArray) : Nat := idxL (namesU B) n
def hasU (B : List Usr) (n : ByteArray) : Bool := hasL (namesU B) n
def atU (B : List Usr) (n : ByteArray) : Usr := B.getD (idxU B n) usrNone
def putU (B : List Usr) (n : ByteArray) (u : Usr) : List Usr := B.set (idxU B n) u
/-- One more failure. -/
def failU (u : Usr) (now : Int) : Usr := if u.fails + 1 < 3 then ⟨u.name, u.secret, u.fails + 1, u.locked, u.till⟩ else ⟨u.name, u.secret, 0, true, min (now + 20) 9223372036854775807⟩
def lastU (u : Usr) : Bool := decide (3 ≤ u.fails + 1)
def goodU (u : Usr) : Usr := ⟨u.name, u.secret, 0, u.locked, u.till⟩
def failB (B : List Usr) (n : ByteArray) (now : Int) : List Usr := if hasU B n then putU B n (failU (atU B n) now) else B
def failT (B : List Usr) (n : ByteArray) : Bool := hasU B n && lastU (atU B n)
def goodB (B : List Usr) (n : ByteArray) : List Usr := if hasU B n then putU B n (goodU (atU B n)) else B
def lockedT (B : List Usr) (n : ByteArray) (now : Int) : Bool := hasU B n && ((atU B n).locked && decide (now ≤ (atU B n).till))
def failsN (B : List Usr) (n : ByteArray) : Nat := if hasU B n then (atU B n).fails else 0
def freshU (L : List (ByteArray × ByteArray)) : List Usr := L.map fun p => ⟨p.1, p.2, 0, false, 0⟩
def usersOk (L : List (ByteArray × ByteArray)) : Bool := decide (L.length ≤ 20) && L.all (fun p => userOkU p.1 p.2) && nodupL (L.map Prod.fst)

theorem idxU_lt {B : List Usr} {n : ByteArray} (h : hasU B n = true) : idxU B n < B.length := by
  have := (List.getElem?_eq_some_iff.1 (idxL_at _ _ h)).1
  simpa [idxU, namesU] using this
theorem atU_get {B : List Usr} {n : ByteArray} (h : hasU B n = true) : B[idxU B n]? = some (atU B n) := by
  unfold atU
  rw [List.getD_eq_getElem?_getD, List.getElem?_eq_getElem (idxU_lt h)]
  rfl
theorem atU_name {B : List Usr} {n : ByteArray} (h : hasU B n = true) : (atU B n).name = n := by
  have h2 := idxL_at _ _ h
  unfold namesU at h2
  rw [List.getElem?_map] at h2
  have h3 := atU_get h
  unfold idxU namesU at h3
  rw [h3] at h2
  exact Option.some.inj h2
/-- Turned, one keeps its name: the names are as they were. -/
theorem names_put {B : List Usr} {n : ByteArray} {u : Usr} (h : hasU B n = true) (hu : u.name = n) : namesU (putU B n u) = namesU B := by
  unfold namesU putU
  rw [List.map_set, hu]
  refine List.ext_getElem? (fun i => ?_)
  by_cases e : idxU B n = i
  · subst e
    have h1 := idxU_lt h
    rw [List.getElem?_set_self (by simpa using h1), List.getElem?_map, atU_get h, Option.map_some, atU_name h]
  · rw [List.getElem?_set_ne e]
theorem failU_name (u : Usr) (now : Int) : (failU u now).name = u.name ∧ (failU u now).secret = u.secret := by unfold failU; split <;> exact ⟨rfl, rfl⟩
theorem failB_names (B : List Usr) (n : ByteArray) (now : Int) : namesU (failB B n now) = namesU B := by
  unfold failB
  split
  · rename_i h
    exact names_put h ((failU_name _ _).1.trans (atU_name h))
  · rfl
theorem goodB_names (B : List Usr) (n : ByteArray) : namesU (goodB B n) = namesU B := by
  unfold goodB
  split
  · rename_i h
    exact names_put h (atU_name h)
  · rfl
theorem has_of_names {B B' : List Usr} (h : namesU B' = namesU B) (n : ByteArray) : hasU B' n = hasU B n ∧ idxU B' n = idxU B n := by unfold hasU idxU; rw [h]; exact ⟨rfl, rfl⟩
/-- The one that was turned, and any other one. -/
theorem at_put_same {B : List Usr} {n : ByteArray} {u : Usr} (h : hasU B n = true) (hu : u.name = n) : atU (putU B n u) n = u := by
  have hi := (has_of_names (names_put h hu) n).2
  unfold atU
  rw [hi]
  unfold putU
  rw [List.getD_eq_getElem?_getD, List.getElem?_set_self (idxU_lt h)]
  rfl
theorem at_put_other {B : List Usr} {n m : ByteArray} {u : Usr} (h : hasU B n = true) (hu : u.name = n) (hm : m ≠ n) (hh : hasU B m = true) : atU (putU B n u) m = atU B m := by
  have hi := (has_of_names (names_put h hu) m).2
  have hne : idxU B n ≠ idxU B m := fun e => hm (by rw [← atU_name hh, ← atU_name h]; unfold atU; rw [e])
  unfold atU
  rw [hi]
  unfold putU
  rw [List.getD_eq_getElem?_getD, List.getElem?_set_ne hne, ← List.getD_eq_getElem?_getD]

/-- What stands between calls. -/
structure UsersOk (B : List Usr) : Prop where
  nodup : (namesU B).Nodup
  len : B.length ≤ 20
  each : ∀ u ∈ B, userOkU u.name u.secret = true ∧ u.fails < 3
theorem usersOk_fresh {L : List (ByteArray × ByteArray)} (h : usersOk L = true) : UsersOk (freshU L) := by
  unfold usersOk at h
  simp only [Bool.and_eq_true, decide_eq_true_eq, List.all_eq_true] at h
  obtain ⟨⟨h1, h2⟩, h3⟩ := h
  rw [nodupL_iff] at h3
  refine ⟨?_, by unfold freshU; rw [List.length_map]; exact h1, fun u hu => ?_⟩
  · have : namesU (freshU L) = L.map Prod.fst := by unfold namesU freshU; rw [List.map_map]; rfl
    rw [this]; exact h3
  · obtain ⟨p, hp, rfl⟩ := List.mem_map.1 hu
    exact ⟨h2 p hp, by show 0 < 3; decide⟩
theorem UsersOk.put {B : List Usr} (h : UsersOk B) {n : ByteArray} {u : Usr} (hh : hasU B n = true) (hu : u.name = n) (hs : u.secret = (atU B n).secret) (hf : u.fails < 3) : UsersOk (putU B n u) := by
  refine ⟨by rw [names_put hh hu]; exact h.nodup, by unfold putU; rw [List.length_set]; exact h.len, fun v hv => ?_⟩
  unfold putU at hv
  rcases List.mem_or_eq_of_mem_set hv with hv | rfl
  · exact h.each v hv
  · have := (h.each _ (List.mem_of_getElem? (atU_get hh))).1
    rw [atU_name hh] at this
    exact ⟨by rw [hu, hs]; exact this, hf⟩
theorem UsersOk.fail {B : List Usr} (h : UsersOk B) (n : ByteArray) (now : Int) : UsersOk (failB B n now) := by
  unfold failB
  split
  · rename_i hh
    refine h.put hh ((failU_name _ _).1.trans (atU_name hh)) (failU_name _ _).2 ?_
    unfold failU
    split
    · assumption
    · show 0 < 3; decide
  · exact h
theorem UsersOk.good {B : List Usr} (h : UsersOk B) (n : ByteArray) : UsersOk (goodB B n) := by
  unfold goodB
  split
  · rename_i hh
    exact h.put hh (atU_name hh) rfl (by show 0 < 3; decide)
  · exact h

end Go.Proofs.YtjemklgfenciaaaGreat

/-
  Plain mathematics of package users: one user, two users; what waits for the last failure.
-/
namespace Go.Proofs.YtjemklgfenciaaaGreat
set_option linter.unusedVariables false
set_option maxRecDepth 100000
set_option linter.unusedSimpArgs false

section
variable (u v : Usr) (now : Int) (m : ByteArray)
theorem has_one (h : m = u.name) : hasU [u] m = true := by subst h; simp [hasU, namesU, hasL]
theorem has_one_no (h : m ≠ u.name) : hasU [u] m = false := by simp [hasU, namesU, hasL]; exact Ne.symm h
theorem at_one : atU [u] u.name = u := by
  have : idxU [u] u.name = 0 := by simp [idxU, namesU, idxL]
  unfold atU
  rw [this]
  rfl
theorem idx_one : idxU [u] u.name = 0 := by simp [idxU, namesU, idxL]
theorem put_one (x : Usr) : putU [u] u.name x = [x] := by unfold putU; rw [idx_one]; rfl
theorem fail_one : failB [u] u.name now = [failU u now] ∧ failT [u] u.name = lastU u := by
  unfold failB failT
  rw [has_one u u.name rfl, at_one, put_one]
  exact ⟨rfl, rfl⟩
theorem good_one : goodB [u] u.name = [goodU u] := by
  unfold goodB
  rw [has_one u u.name rfl, at_one, put_one]
  rfl
theorem locked_one : lockedT [u] u.name now = (u.locked && decide (now ≤ u.till)) := by
  unfold lockedT
  rw [has_one u u.name rfl, at_one]
  rfl
theorem fails_one : failsN [u] u.name = u.fails := by
  unfold failsN
  rw [has_one u u.name rfl, at_one]
  rfl
theorem none_one (h : m ≠ u.name) : failB [u] m now = [u] ∧ failT [u] m = false ∧ goodB [u] m = [u] ∧ lockedT [u] m now = false ∧ failsN [u] m = 0 := by
  unfold failB failT goodB lockedT failsN
  rw [has_one_no u m h]
  exact ⟨rfl, rfl, rfl, rfl, rfl⟩

theorem has_two_a : hasU [u, v] u.name = true := by simp [hasU, namesU, hasL]
theorem has_two_b : hasU [u, v] v.name = true := by simp [hasU, namesU, hasL]
theorem idx_two_a : idxU [u, v] u.name = 0 := by simp [idxU, namesU, idxL]
theorem idx_two_b (h : v.name ≠ u.name) : idxU [u, v] v.name = 1 := by
  simp [idxU, namesU, idxL, Ne.symm h]
theorem at_two_a : atU [u, v] u.name = u := by unfold atU; rw [idx_two_a]; rfl
theorem at_two_b (h : v.name ≠ u.name) : atU [u, v] v.name = v := by unfold atU; rw [idx_two_b u v h]; rfl
theorem fail_two : failB [u, v] u.name now = [failU u now, v] ∧ failT [u, v] u.name = lastU u := by
  unfold failB failT putU
  rw [has_two_a, at_two_a, idx_two_a]
  exact ⟨rfl, rfl⟩
theorem locked_two_a : lockedT [u, v] u.name now = (u.locked && decide (now ≤ u.till)) := by unfold lockedT; rw [has_two_a, at_two_a]; rfl
theorem locked_two_b (h : v.name ≠ u.name) : lockedT [u, v] v.name now = (v.locked && decide (now ≤ v.till)) := by unfold lockedT; rw [has_two_b, at_two_b u v h]; rfl
theorem fails_two_a : failsN [u, v] u.name = u.fails := by unfold failsN; rw [has_two_a, at_two_a]; rfl
theorem fails_two_b (h : v.name ≠ u.name) : failsN [u, v] v.name = v.fails := by unfold failsN; rw [has_two_b, at_two_b u v h]; rfl
end
theorem failU_less {u : Usr} {now : Int} (h : u.fails + 1 < 3) : failU u now = ⟨u.name, u.secret, u.fails + 1, u.locked, u.till⟩ ∧ lastU u = false := by
  unfold failU lastU
  rw [if_pos h]
  exact ⟨rfl, decide_eq_false (by omega)⟩
theorem failU_last {u : Usr} {now : Int} (h : ¬ u.fails + 1 < 3) : failU u now = ⟨u.name, u.secret, 0, true, min (now + 20) 9223372036854775807⟩ ∧ lastU u = true := by
  unfold failU lastU
  rw [if_neg h]
  exact ⟨rfl, decide_eq_true (by omega)⟩
/-- So many failures in a row, at one time. -/
def failTo (s n : ByteArray) (now : Int) (k : Nat) : Usr := ⟨n, s, k % 3, decide (3 ≤ k), if 3 ≤ k then now + 20 else 0⟩
theorem failTo_next (s n : ByteArray) (now : Int) (k : Nat) (h : now + 20 ≤ 9223372036854775807) : failU (failTo s n now k) now = failTo s n now (k + 1) ∧ lastU (failTo s n now k) = decide ((k + 1) % 3 = 0) := by
  by_cases h3 : k % 3 + 1 < 3
  · obtain ⟨e1, e2⟩ := failU_less (u := failTo s n now k) (now := now) h3
    rw [e1, e2]
    refine ⟨?_, (decide_eq_false (by omega)).symm⟩
    unfold failTo
    have e3 : (k + 1) % 3 = k % 3 + 1 := by omega
    by_cases h4 : 3 ≤ k
    · rw [e3, decide_eq_true h4, if_pos h4, decide_eq_true (show 3 ≤ k + 1 by omega), if_pos (show 3 ≤ k + 1 by omega)]
    · rw [e3, decide_eq_false h4, if_neg h4, decide_eq_false (show ¬ 3 ≤ k + 1 by omega), if_neg (show ¬ 3 ≤ k + 1 by omega)]
  · obtain ⟨e1, e2⟩ := failU_last (u := failTo s n now k) (now := now) h3
    rw [e1, e2]
    refine ⟨?_, (decide_eq_true (by omega)).symm⟩
    unfold failTo
    have e3 : (k + 1) % 3 = 0 := by omega
    rw [e3, decide_eq_true (show 3 ≤ k + 1 by omega), if_pos (show 3 ≤ k + 1 by omega), show min (now + 20) 9223372036854775807 = now + 20 by omega]
theorem users_one (n s : ByteArray) : usersOk [(n, s)] = userOkU n s := by
  unfold usersOk
  simp [nodupL, hasL]

theorem failTo_zero (s n : ByteArray) (now : Int) : failTo s n now 0 = ⟨n, s, 0, false, 0⟩ := rfl
theorem one_fail (s n : ByteArray) (now : Int) (k : Nat) (h : now + 20 ≤ 9223372036854775807) : failB [failTo s n now k] n now = [failTo s n now (k + 1)] ∧ failT [failTo s n now k] n = decide ((k + 1) % 3 = 0) := by
  obtain ⟨e1, e2⟩ := failTo_next s n now k h
  obtain ⟨f1, f2⟩ := fail_one (failTo s n now k) now
  rw [e1] at f1
  rw [e2] at f2
  exact ⟨f1, f2⟩
theorem one_locked (s n : ByteArray) (now t : Int) (k : Nat) : lockedT [failTo s n now k] n t = (decide (3 ≤ k) && decide (t ≤ now + 20)) := by
  refine (locked_one (failTo s n now k) t).trans ?_
  unfold failTo
  by_cases h : 3 ≤ k
  · simp only [decide_eq_true h, if_pos h]
  · simp only [decide_eq_false h, Bool.false_and]
theorem one_fails (s n : ByteArray) (now : Int) (k : Nat) : failsN [failTo s n now k] n = k % 3 := fails_one (failTo s n now k)
theorem one_good (s n : ByteArray) (now : Int) (k : Nat) (h : k < 3) : goodB [failTo s n now k] n = [failTo s n now 0] := by
  refine (good_one (failTo s n now k)).trans ?_
  unfold goodU failTo
  simp only [decide_eq_false (show ¬ 3 ≤ k by omega), if_neg (show ¬ 3 ≤ k by omega)]
  rfl
theorem two_fail (s n t m : ByteArray) (now : Int) (k : Nat) (h : now + 20 ≤ 9223372036854775807) : failB [failTo s n now k, failTo t m now 0] n now = [failTo s n now (k + 1), failTo t m now 0] := by
  obtain ⟨e1, e2⟩ := failTo_next s n now k h
  obtain ⟨f1, f2⟩ := fail_two (failTo s n now k) (failTo t m now 0) now
  rw [e1] at f1
  exact f1
theorem two_locked_a (s n t m : ByteArray) (now x : Int) (k : Nat) : lockedT [failTo s n now k, failTo t m now 0] n x = (decide (3 ≤ k) && decide (x ≤ now + 20)) := by
  refine (locked_two_a (failTo s n now k) (failTo t m now 0) x).trans ?_
  unfold failTo
  by_cases h : 3 ≤ k
  · simp only [decide_eq_true h, if_pos h]
  · simp only [decide_eq_false h, Bool.false_and]
theorem two_locked_b (s n t m : ByteArray) (now x : Int) (k : Nat) (h : m ≠ n) : lockedT [failTo s n now k, failTo t m now 0] m x = false := locked_two_b (failTo s n now k) (failTo t m now 0) x h
theorem two_fails_a (s n t m : ByteArray) (now : Int) (k : Nat) : failsN [failTo s n now k, failTo t m now 0] n = k % 3 := fails_two_a (failTo s n now k) (failTo t m now 0)
theorem two_fails_b (s n t m : ByteArray) (now : Int) (k : Nat) (h : m ≠ n) : failsN [failTo s n now k, failTo t m now 0] m = 0 := fails_two_b (failTo s n now k) (failTo t m now 0) h

end Go.Proofs.YtjemklgfenciaaaGreat
