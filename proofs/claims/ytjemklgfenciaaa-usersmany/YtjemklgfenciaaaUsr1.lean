/-
  What package users' functions tell.
-/
import Derived.Test.YtjemklgfenciaaaUsr0
import Derived.Test.YtjemklgfenciaaaSep0
namespace Go.Proofs.Ytjemklgfenciaaa
open Go.RowKit
set_option linter.unusedVariables false
set_option maxRecDepth 100000
set_option linter.unusedSimpArgs false

/-- What a slice of users (a name and a secret each) holds. -/
def PairsAt (w : World) (oa : Option Addr) (n : Nat) (X : Nat → ByteArray × ByteArray) : Prop := ∀ i, i < n → ∃ b o, oa = some ⟨b, o, none⟩ ∧ w.cell? ⟨b, o + i * 2, none⟩ = some (.string (X i).1) ∧ w.cell? ⟨b, o + i * 2 + 1, none⟩ = some (.string (X i).2)
def listU (X : Nat → ByteArray × ByteArray) (n : Nat) : List (ByteArray × ByteArray) := (List.range n).map X
theorem PairsAt.later {w w' : World} {oa : Option Addr} {n : Nat} {X : Nat → ByteArray × ByteArray} (h : PairsAt w oa n X) (hb : Below w.heap.size w w') : PairsAt w' oa n X := by
  intro i hi
  obtain ⟨b, o, ho, h1, h2⟩ := h i hi
  have hl : b < w.heap.size := World.block_lt_of_cell? w _ h1
  exact ⟨b, o, ho, by rw [hb.cell (p := ⟨b, o + i * 2, none⟩) hl, h1], by rw [hb.cell (p := ⟨b, o + i * 2 + 1, none⟩) hl, h2]⟩
/-- Names, each behind the one ahead of it. -/
def RisingU (L : List ByteArray) : Prop := ∀ i, i + 1 < L.length → Go.Op.bytesLess (L.getD i ⟨#[]⟩).toList (L.getD (i + 1) ⟨#[]⟩).toList = true
/-- The names of all users, in order. -/
structure NamesOf (B : List Usr) (L : List ByteArray) : Prop where
  len : L.length = B.length
  each : ∀ x ∈ L, hasU B x = true
  rising : RisingU L
abbrev I64U (x : Int) : Prop := -9223372036854775808 ≤ x ∧ x ≤ 9223372036854775807
/-- At w bl p B: at p lies a Users, in the blocks bl: these users. -/
structure UsersKeeps where
  At : World → (Nat → Prop) → Nat → List Usr → Prop
  ok : ∀ {w : World} {bl : Nat → Prop} {p : Nat} {B : List Usr}, At w bl p B → UsersOk B
  lt : ∀ {w : World} {bl : Nat → Prop} {p : Nat} {B : List Usr}, At w bl p B → ∀ k, bl k → k < w.heap.size
  keep : ∀ {S : Nat → Prop} {w w' : World} {bl : Nat → Prop} {p : Nat} {B : List Usr}, At w bl p B → Touch S w w' → (∀ k, bl k → ¬ S k) → At w' bl p B
  right : ∀ (w : World) (n s : ByteArray), n.size ≤ maxLen → s.size ≤ maxLen → Calls Try.prog 16 #[.agg #[.string n, .string s]] w fun e w' => e = .returned (.bool (userOkU n s)) ∧ Below w.heap.size w w'
  newOk : ∀ (w : World) (oa : Option Addr) (n c : Nat) (X : Nat → ByteArray × ByteArray), PairsAt w oa n X → n ≤ maxLen → (∀ i, i < n → (X i).1.size ≤ maxLen ∧ (X i).2.size ≤ maxLen) → usersOk (listU X n) = true →
    Calls Try.prog 8 #[.slice oa n c] w fun e w' => ∃ bl p, e = .returned (.tuple #[.pointer (some ⟨p, 0, none⟩), .int .i64 0]) ∧ At w' bl p (freshU (listU X n)) ∧ (∀ k, bl k → w.heap.size ≤ k) ∧ Below w.heap.size w w'
  newNo : ∀ (w : World) (oa : Option Addr) (n c : Nat) (X : Nat → ByteArray × ByteArray), PairsAt w oa n X → n ≤ maxLen → (∀ i, i < n → (X i).1.size ≤ maxLen ∧ (X i).2.size ≤ maxLen) → usersOk (listU X n) = false →
    Calls Try.prog 8 #[.slice oa n c] w fun e w' => e = .returned (.tuple #[.pointer none, .int .i64 1]) ∧ Below w.heap.size w w'
  secretYes : ∀ (w : World) (bl : Nat → Prop) (p : Nat) (B : List Usr) (n : ByteArray), At w bl p B → n.size ≤ maxLen → hasU B n = true → Calls Try.prog 15 #[.pointer (some ⟨p, 0, none⟩), .string n] w fun e w' => e = .returned (.tuple #[.string (atU B n).secret, .bool true]) ∧
    ∃ bl', At w' bl' p B ∧ (∀ k, bl' k → bl k ∨ w.heap.size ≤ k) ∧ Touch bl w w'
  secretNo : ∀ (w : World) (bl : Nat → Prop) (p : Nat) (B : List Usr) (n : ByteArray), At w bl p B → n.size ≤ maxLen → hasU B n = false → Calls Try.prog 15 #[.pointer (some ⟨p, 0, none⟩), .string n] w fun e w' => (∃ s, e = .returned (.tuple #[.string s, .bool false])) ∧
    ∃ bl', At w' bl' p B ∧ (∀ k, bl' k → bl k ∨ w.heap.size ≤ k) ∧ Touch bl w w'
  fail : ∀ (w : World) (bl : Nat → Prop) (p : Nat) (B : List Usr) (n : ByteArray) (now : Int), At w bl p B → n.size ≤ maxLen → I64U now → Calls Try.prog 10 #[.pointer (some ⟨p, 0, none⟩), .string n, .int .i64 now] w fun e w' => e = .returned (.bool (failT B n)) ∧
    ∃ bl', At w' bl' p (failB B n now) ∧ (∀ k, bl' k → bl k ∨ w.heap.size ≤ k) ∧ Touch bl w w'
  good : ∀ (w : World) (bl : Nat → Prop) (p : Nat) (B : List Usr) (n : ByteArray), At w bl p B → n.size ≤ maxLen → Calls Try.prog 11 #[.pointer (some ⟨p, 0, none⟩), .string n] w fun e w' => e = .returned (.tuple #[]) ∧
    ∃ bl', At w' bl' p (goodB B n) ∧ (∀ k, bl' k → bl k ∨ w.heap.size ≤ k) ∧ Touch bl w w'
  locked : ∀ (w : World) (bl : Nat → Prop) (p : Nat) (B : List Usr) (n : ByteArray) (now : Int), At w bl p B → n.size ≤ maxLen → I64U now → Calls Try.prog 12 #[.pointer (some ⟨p, 0, none⟩), .string n, .int .i64 now] w fun e w' => e = .returned (.bool (lockedT B n now)) ∧
    ∃ bl', At w' bl' p B ∧ (∀ k, bl' k → bl k ∨ w.heap.size ≤ k) ∧ Touch bl w w'
  fails : ∀ (w : World) (bl : Nat → Prop) (p : Nat) (B : List Usr) (n : ByteArray), At w bl p B → n.size ≤ maxLen → Calls Try.prog 13 #[.pointer (some ⟨p, 0, none⟩), .string n] w fun e w' => e = .returned (.int .i64 (failsN B n : Int)) ∧
    ∃ bl', At w' bl' p B ∧ (∀ k, bl' k → bl k ∨ w.heap.size ≤ k) ∧ Touch bl w w'
  names : ∀ (w : World) (bl : Nat → Prop) (p : Nat) (B : List Usr), At w bl p B → Calls Try.prog 14 #[.pointer (some ⟨p, 0, none⟩)] w fun e w' => ∃ v L bl', e = .returned v ∧ NamesOf B L ∧ OwnT w' w.heap.size v L ∧
    At w' bl' p B ∧ (∀ k, bl' k → (bl k ∨ w.heap.size ≤ k) ∧ v.ownBlock ≠ some k) ∧ Touch bl w w'
  secretNil : ∀ (w : World) (n : ByteArray), n.size ≤ maxLen → Calls Try.prog 15 #[.pointer none, .string n] w fun e w' => (∃ s, e = .returned (.tuple #[.string s, .bool false])) ∧ Below w.heap.size w w'
  failNil : ∀ (w : World) (n : ByteArray) (now : Int), n.size ≤ maxLen → I64U now → Calls Try.prog 10 #[.pointer none, .string n, .int .i64 now] w fun e w' => e = .returned (.bool false) ∧ Below w.heap.size w w'
  goodNil : ∀ (w : World) (n : ByteArray), n.size ≤ maxLen → Calls Try.prog 11 #[.pointer none, .string n] w fun e w' => e = .returned (.tuple #[]) ∧ Below w.heap.size w w'
  lockedNil : ∀ (w : World) (n : ByteArray) (now : Int), n.size ≤ maxLen → I64U now → Calls Try.prog 12 #[.pointer none, .string n, .int .i64 now] w fun e w' => e = .returned (.bool false) ∧ Below w.heap.size w w'
  failsNil : ∀ (w : World) (n : ByteArray), n.size ≤ maxLen → Calls Try.prog 13 #[.pointer none, .string n] w fun e w' => e = .returned (.int .i64 0) ∧ Below w.heap.size w w'
  namesNil : ∀ (w : World), Calls Try.prog 14 #[.pointer none] w fun e w' => (∃ a c, e = .returned (.slice a 0 c)) ∧ Below w.heap.size w w'

def UsersTh (K : UsersKeeps) (p : Nat) (B : List Usr) : Thing := ⟨fun w bl => K.At w bl p B, K.lt, K.keep⟩
section
variable {K : UsersKeeps} {w0 w : World} {l : List Thing}
theorem Here.usersHeld (h : Here w0 l w) (i : Nat) {p : Nat} {B : List Usr} (hi : l[i]? = some (UsersTh K p B)) : UsersOk B := by
  obtain ⟨bl, hP, _, _⟩ := h.focus i hi
  exact K.ok hP
theorem Here.newUsers (K : UsersKeeps) (h : Here w0 l w) (oa : Option Addr) (n c : Nat) (X : Nat → ByteArray × ByteArray) (hx : PairsAt w oa n X) (hn : n ≤ maxLen) (hz : ∀ i, i < n → (X i).1.size ≤ maxLen ∧ (X i).2.size ≤ maxLen) (hok : usersOk (listU X n) = true) :
    Calls Try.prog 8 #[.slice oa n c] w fun e w' => ∃ p, e = .returned (.tuple #[.pointer (some ⟨p, 0, none⟩), .int .i64 0]) ∧ Here w0 (UsersTh K p (freshU (listU X n)) :: l) w' := by
  refine (K.newOk w oa n c X hx hn hz hok).mono ?_
  rintro e w' ⟨bl, p, rfl, hA, hb, hbel⟩
  exact ⟨p, rfl, h.new (N := UsersTh K p (freshU (listU X n))) hA hb hbel⟩
theorem Here.newUsersNo (K : UsersKeeps) (h : Here w0 l w) (oa : Option Addr) (n c : Nat) (X : Nat → ByteArray × ByteArray) (hx : PairsAt w oa n X) (hn : n ≤ maxLen) (hz : ∀ i, i < n → (X i).1.size ≤ maxLen ∧ (X i).2.size ≤ maxLen) (hok : usersOk (listU X n) = false) :
    Calls Try.prog 8 #[.slice oa n c] w fun e w' => e = .returned (.tuple #[.pointer none, .int .i64 1]) ∧ Here w0 l w' := by
  refine (K.newNo w oa n c X hx hn hz hok).mono ?_
  rintro e w' ⟨rfl, hbel⟩
  exact ⟨rfl, h.below hbel⟩
theorem Here.userFail (h : Here w0 l w) (i : Nat) {p : Nat} {B : List Usr} (n : ByteArray) (now : Int) (hi : l[i]? = some (UsersTh K p B)) (hn : n.size ≤ maxLen) (hw : I64U now) : Calls Try.prog 10 #[.pointer (some ⟨p, 0, none⟩), .string n, .int .i64 now] w fun e w' => e = .returned (.bool (failT B n)) ∧ Here w0 (l.set i (UsersTh K p (failB B n now))) w' := by
  obtain ⟨bl, hP, _, hstep⟩ := h.focus i hi
  refine (K.fail w bl p B n now hP hn hw).mono ?_
  rintro e w' ⟨rfl, hT⟩
  exact ⟨rfl, hstep _ _ hT⟩
theorem Here.userGood (h : Here w0 l w) (i : Nat) {p : Nat} {B : List Usr} (n : ByteArray) (hi : l[i]? = some (UsersTh K p B)) (hn : n.size ≤ maxLen) : Calls Try.prog 11 #[.pointer (some ⟨p, 0, none⟩), .string n] w fun e w' => e = .returned (.tuple #[]) ∧ Here w0 (l.set i (UsersTh K p (goodB B n))) w' := by
  obtain ⟨bl, hP, _, hstep⟩ := h.focus i hi
  refine (K.good w bl p B n hP hn).mono ?_
  rintro e w' ⟨rfl, hT⟩
  exact ⟨rfl, hstep _ _ hT⟩
theorem Here.userLocked (h : Here w0 l w) (i : Nat) {p : Nat} {B : List Usr} (n : ByteArray) (now : Int) (hi : l[i]? = some (UsersTh K p B)) (hn : n.size ≤ maxLen) (hw : I64U now) : Calls Try.prog 12 #[.pointer (some ⟨p, 0, none⟩), .string n, .int .i64 now] w fun e w' => e = .returned (.bool (lockedT B n now)) ∧ Here w0 (l.set i (UsersTh K p B)) w' := by
  obtain ⟨bl, hP, _, hstep⟩ := h.focus i hi
  refine (K.locked w bl p B n now hP hn hw).mono ?_
  rintro e w' ⟨rfl, hT⟩
  exact ⟨rfl, hstep _ _ hT⟩
theorem Here.userFails (h : Here w0 l w) (i : Nat) {p : Nat} {B : List Usr} (n : ByteArray) (hi : l[i]? = some (UsersTh K p B)) (hn : n.size ≤ maxLen) : Calls Try.prog 13 #[.pointer (some ⟨p, 0, none⟩), .string n] w fun e w' => e = .returned (.int .i64 (failsN B n : Int)) ∧ Here w0 (l.set i (UsersTh K p B)) w' := by
  obtain ⟨bl, hP, _, hstep⟩ := h.focus i hi
  refine (K.fails w bl p B n hP hn).mono ?_
  rintro e w' ⟨rfl, hT⟩
  exact ⟨rfl, hstep _ _ hT⟩
theorem Here.userSecret (h : Here w0 l w) (i : Nat) {p : Nat} {B : List Usr} (n : ByteArray) (hi : l[i]? = some (UsersTh K p B)) (hn : n.size ≤ maxLen) (hh : hasU B n = true) : Calls Try.prog 15 #[.pointer (some ⟨p, 0, none⟩), .string n] w fun e w' => e = .returned (.tuple #[.string (atU B n).secret, .bool true]) ∧ Here w0 (l.set i (UsersTh K p B)) w' := by
  obtain ⟨bl, hP, _, hstep⟩ := h.focus i hi
  refine (K.secretYes w bl p B n hP hn hh).mono ?_
  rintro e w' ⟨rfl, hT⟩
  exact ⟨rfl, hstep _ _ hT⟩
theorem Here.userSecretNo (h : Here w0 l w) (i : Nat) {p : Nat} {B : List Usr} (n : ByteArray) (hi : l[i]? = some (UsersTh K p B)) (hn : n.size ≤ maxLen) (hh : hasU B n = false) : Calls Try.prog 15 #[.pointer (some ⟨p, 0, none⟩), .string n] w fun e w' => (∃ s, e = .returned (.tuple #[.string s, .bool false])) ∧ Here w0 (l.set i (UsersTh K p B)) w' := by
  obtain ⟨bl, hP, _, hstep⟩ := h.focus i hi
  refine (K.secretNo w bl p B n hP hn hh).mono ?_
  rintro e w' ⟨he, hT⟩
  exact ⟨he, hstep _ _ hT⟩
theorem Here.userNames (h : Here w0 l w) (i : Nat) {p : Nat} {B : List Usr} (hi : l[i]? = some (UsersTh K p B)) : Calls Try.prog 14 #[.pointer (some ⟨p, 0, none⟩)] w fun e w' => ∃ a c L, e = .returned (.slice a L.length c) ∧ NamesOf B L ∧ Here w0 (TextsTh w0.heap.size (.slice a L.length c) L :: l.set i (UsersTh K p B)) w' := by
  obtain ⟨bl, hP, _, hstep⟩ := h.focus2 i hi
  refine (K.names w bl p B hP).mono ?_
  rintro e w' ⟨v, L, bl', rfl, hN, hown, hA, hn, ht⟩
  obtain ⟨a, c, rfl⟩ := hown.shape
  refine ⟨a, c, L, rfl, hN, hstep (UsersTh K p B) (TextsTh w0.heap.size _ L) w' bl' (fun k => (Value.slice a L.length c).ownBlock = some k) hA (fun k hk => (hn k hk).1) ⟨hown.base h.sz, fun k => Iff.rfl⟩ (fun k hk => ⟨(World.ownsRow.lt hown k hk).1, fun hk2 => (hn k hk2).2 hk⟩) ht⟩
end

end Go.Proofs.Ytjemklgfenciaaa
