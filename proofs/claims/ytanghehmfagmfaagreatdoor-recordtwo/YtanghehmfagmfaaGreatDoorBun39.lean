/-
  Parts of this proof, one behind the other: Rec2, Rec5, RcK0.
-/
import Derived.Test.YtanghehmfagmfaaGreatDoorBun29
import Derived.Test.YtanghehmfagmfaaGreatDoorBun35
import Derived.Test.YtanghehmfagmfaaGreatDoorBun4
import Derived.Test.YtanghehmfagmfaaGreatDoorBun11
import Derived.BigQuiet
import Derived.Test.YtanghehmfagmfaaGreatDoorBun38

/-
  What package record's functions tell.
-/
namespace Go.Proofs.YtanghehmfagmfaaGreatDoor
open Go.RowKit
set_option linter.unusedVariables false
set_option maxRecDepth 100000
set_option linter.unusedSimpArgs false

/-- At w bl p ..: at p lies an Out (an In), in the blocks bl, in a state. -/
structure RecordKeeps where
  OutAt : World → (Nat → Prop) → Nat → ByteArray → Nat → Prop
  InAt : World → (Nat → Prop) → Nat → InS → Prop
  outOk : ∀ {w : World} {bl : Nat → Prop} {p : Nat} {key : ByteArray} {n : Nat}, OutAt w bl p key n → key.size = 32
  inOk : ∀ {w : World} {bl : Nat → Prop} {p : Nat} {s : InS}, InAt w bl p s → s.Ok ∧ s.key.size = 32
  outLt : ∀ {w : World} {bl : Nat → Prop} {p : Nat} {key : ByteArray} {n : Nat}, OutAt w bl p key n → ∀ k, bl k → k < w.heap.size
  inLt : ∀ {w : World} {bl : Nat → Prop} {p : Nat} {s : InS}, InAt w bl p s → ∀ k, bl k → k < w.heap.size
  outKeep : ∀ {S : Nat → Prop} {w w' : World} {bl : Nat → Prop} {p : Nat} {key : ByteArray} {n : Nat}, OutAt w bl p key n → Touch S w w' → (∀ k, bl k → ¬ S k) → OutAt w' bl p key n
  inKeep : ∀ {S : Nat → Prop} {w w' : World} {bl : Nat → Prop} {p : Nat} {s : InS}, InAt w bl p s → Touch S w w' → (∀ k, bl k → ¬ S k) → InAt w' bl p s
  newOut : ∀ (w : World) (key : ByteArray), key.size = 32 → Calls Tryz.prog 15 #[.string key] w fun e w' => ∃ bl p, e = .returned (.pointer (some ⟨p, 0, none⟩)) ∧ OutAt w' bl p key 0 ∧ (∀ k, bl k → w.heap.size ≤ k) ∧ Below w.heap.size w w'
  newOutNo : ∀ (w : World) (key : ByteArray), key.size ≤ 1000000 → key.size ≠ 32 → Calls Tryz.prog 15 #[.string key] w fun e w' => e = .returned (.pointer none) ∧ Below w.heap.size w w'
  newIn : ∀ (w : World) (key : ByteArray), key.size = 32 → Calls Tryz.prog 16 #[.string key] w fun e w' => ∃ bl p, e = .returned (.pointer (some ⟨p, 0, none⟩)) ∧ InAt w' bl p (InS.zero key) ∧ (∀ k, bl k → w.heap.size ≤ k) ∧ Below w.heap.size w w'
  sealOk : ∀ (w : World) (bl : Nat → Prop) (p : Nat) (key : ByteArray) (n : Nat) (t : ByteArray), OutAt w bl p key n → t.size ≤ 2046 → n < 400 → Calls Tryz.prog 17 #[.pointer (some ⟨p, 0, none⟩), .string t] w fun e w' => e = .returned (.tuple #[.string (recS key n t), .int .i64 0]) ∧
    ∃ bl', OutAt w' bl' p key (n + 1) ∧ (∀ k, bl' k → bl k ∨ w.heap.size ≤ k) ∧ Touch bl w w'
  sealLarge : ∀ (w : World) (bl : Nat → Prop) (p : Nat) (key : ByteArray) (n : Nat) (t : ByteArray), OutAt w bl p key n → t.size ≤ 1000000 → 2046 < t.size → Calls Tryz.prog 17 #[.pointer (some ⟨p, 0, none⟩), .string t] w fun e w' => ∃ s, e = .returned (.tuple #[.string s, .int .i64 13]) ∧
    ∃ bl', OutAt w' bl' p key n ∧ (∀ k, bl' k → bl k ∨ w.heap.size ≤ k) ∧ Touch bl w w'
  sealEnd : ∀ (w : World) (bl : Nat → Prop) (p : Nat) (key : ByteArray) (n : Nat) (t : ByteArray), OutAt w bl p key n → t.size ≤ 2046 → 400 ≤ n → n ≤ 1000000 → Calls Tryz.prog 17 #[.pointer (some ⟨p, 0, none⟩), .string t] w fun e w' => ∃ s, e = .returned (.tuple #[.string s, .int .i64 5]) ∧
    ∃ bl', OutAt w' bl' p key (n + 1) ∧ (∀ k, bl' k → bl k ∨ w.heap.size ≤ k) ∧ Touch bl w w'
  outNext : ∀ (w : World) (bl : Nat → Prop) (p : Nat) (key : ByteArray) (n : Nat), OutAt w bl p key n → n ≤ 400 → Calls Tryz.prog 19 #[.pointer (some ⟨p, 0, none⟩)] w fun e w' => e = .returned (.int .i64 (n : Int)) ∧ ∃ m, w' = w.drewN m
  outNextEnd : ∀ (w : World) (bl : Nat → Prop) (p : Nat) (key : ByteArray) (n : Nat), OutAt w bl p key n → 400 ≤ n → Calls Tryz.prog 19 #[.pointer (some ⟨p, 0, none⟩)] w fun e w' => e = .returned (.int .i64 400) ∧ ∃ m, w' = w.drewN m
  open_ : ∀ (w : World) (bl : Nat → Prop) (p : Nat) (s : InS) (b : ByteArray), InAt w bl p s → b.size ≤ 1000000 → Calls Tryz.prog 20 #[.pointer (some ⟨p, 0, none⟩), .string b] w fun e w' => ∃ v bl', e = .returned (.tuple #[v, .int .i64 (errR s b : Int)]) ∧ OwnT w' w.heap.size v (outR s b) ∧
    InAt w' bl' p (stepR s b) ∧ (∀ k, bl' k → (bl k ∨ w.heap.size ≤ k) ∧ v.ownBlock ≠ some k) ∧ Touch bl w w'
  inNext : ∀ (w : World) (bl : Nat → Prop) (p : Nat) (s : InS), InAt w bl p s → Calls Tryz.prog 24 #[.pointer (some ⟨p, 0, none⟩)] w fun e w' => e = .returned (.int .i64 (s.next : Int)) ∧ ∃ m, w' = w.drewN m
  inWaits : ∀ (w : World) (bl : Nat → Prop) (p : Nat) (s : InS), InAt w bl p s → Calls Tryz.prog 25 #[.pointer (some ⟨p, 0, none⟩)] w fun e w' => e = .returned (.int .i64 (s.W.length : Int)) ∧
    ∃ bl', InAt w' bl' p s ∧ (∀ k, bl' k → bl k ∨ w.heap.size ≤ k) ∧ Touch bl w w'
  sealNil : ∀ (w : World) (t : ByteArray), t.size ≤ 1000000 → Calls Tryz.prog 17 #[.pointer none, .string t] w fun e w' => ∃ s, e = .returned (.tuple #[.string s, .int .i64 7]) ∧ Below w.heap.size w w'
  openNil : ∀ (w : World) (b : ByteArray), b.size ≤ 1000000 → Calls Tryz.prog 20 #[.pointer none, .string b] w fun e w' => ∃ v, e = .returned (.tuple #[v, .int .i64 7]) ∧ Below w.heap.size w w'
  outNextNil : ∀ (w : World), Calls Tryz.prog 19 #[.pointer none] w fun e w' => e = .returned (.int .i64 0) ∧ Below w.heap.size w w'
  inNextNil : ∀ (w : World), Calls Tryz.prog 24 #[.pointer none] w fun e w' => e = .returned (.int .i64 0) ∧ Below w.heap.size w w'
  waitsNil : ∀ (w : World), Calls Tryz.prog 25 #[.pointer none] w fun e w' => e = .returned (.int .i64 0) ∧ Below w.heap.size w w'

def OutTh (K : RecordKeeps) (p : Nat) (key : ByteArray) (n : Nat) : Thing := ⟨fun w bl => K.OutAt w bl p key n, K.outLt, K.outKeep⟩
def InTh (K : RecordKeeps) (p : Nat) (s : InS) : Thing := ⟨fun w bl => K.InAt w bl p s, K.inLt, K.inKeep⟩

section
variable {K : RecordKeeps} {w0 w : World} {l : List Thing}
theorem Here.outOk (h : Here w0 l w) (i : Nat) {p n : Nat} {key : ByteArray} (hi : l[i]? = some (OutTh K p key n)) : key.size = 32 := by
  obtain ⟨bl, hP, _, _⟩ := h.focus i hi
  exact K.outOk hP
theorem Here.inOk (h : Here w0 l w) (i : Nat) {p : Nat} {s : InS} (hi : l[i]? = some (InTh K p s)) : s.Ok ∧ s.key.size = 32 := by
  obtain ⟨bl, hP, _, _⟩ := h.focus i hi
  exact K.inOk hP
theorem Here.newOut (K : RecordKeeps) (h : Here w0 l w) (key : ByteArray) (hk : key.size = 32) : Calls Tryz.prog 15 #[.string key] w fun e w' => ∃ p, e = .returned (.pointer (some ⟨p, 0, none⟩)) ∧ Here w0 (OutTh K p key 0 :: l) w' := by
  refine (K.newOut w key hk).mono ?_
  rintro e w' ⟨bl, p, rfl, hA, hb, hbel⟩
  exact ⟨p, rfl, h.new (N := OutTh K p key 0) hA hb hbel⟩
theorem Here.newIn (K : RecordKeeps) (h : Here w0 l w) (key : ByteArray) (hk : key.size = 32) : Calls Tryz.prog 16 #[.string key] w fun e w' => ∃ p, e = .returned (.pointer (some ⟨p, 0, none⟩)) ∧ Here w0 (InTh K p (InS.zero key) :: l) w' := by
  refine (K.newIn w key hk).mono ?_
  rintro e w' ⟨bl, p, rfl, hA, hb, hbel⟩
  exact ⟨p, rfl, h.new (N := InTh K p (InS.zero key)) hA hb hbel⟩
theorem Here.newOutNo (K : RecordKeeps) (h : Here w0 l w) (key : ByteArray) (h1 : key.size ≤ 1000000) (hk : key.size ≠ 32) : Calls Tryz.prog 15 #[.string key] w fun e w' => e = .returned (.pointer none) ∧ Here w0 l w' := by
  refine (K.newOutNo w key h1 hk).mono ?_
  rintro e w' ⟨rfl, hbel⟩
  exact ⟨rfl, h.below hbel⟩
theorem Here.sealT (h : Here w0 l w) (i : Nat) {p n : Nat} {key : ByteArray} (t : ByteArray) (hi : l[i]? = some (OutTh K p key n)) (ht : t.size ≤ 2046) (hn : n < 400) : Calls Tryz.prog 17 #[.pointer (some ⟨p, 0, none⟩), .string t] w fun e w' => e = .returned (.tuple #[.string (recS key n t), .int .i64 0]) ∧ Here w0 (l.set i (OutTh K p key (n + 1))) w' := by
  obtain ⟨bl, hP, _, hstep⟩ := h.focus i hi
  refine (K.sealOk w bl p key n t hP ht hn).mono ?_
  rintro e w' ⟨rfl, bl', hA, hn, ht⟩
  exact ⟨rfl, hstep _ _ ⟨bl', hA, hn, ht⟩⟩
theorem Here.sealLarge (h : Here w0 l w) (i : Nat) {p n : Nat} {key : ByteArray} (t : ByteArray) (hi : l[i]? = some (OutTh K p key n)) (h1 : t.size ≤ 1000000) (ht : 2046 < t.size) : Calls Tryz.prog 17 #[.pointer (some ⟨p, 0, none⟩), .string t] w fun e w' => ∃ s, e = .returned (.tuple #[.string s, .int .i64 13]) ∧ Here w0 (l.set i (OutTh K p key n)) w' := by
  obtain ⟨bl, hP, _, hstep⟩ := h.focus i hi
  refine (K.sealLarge w bl p key n t hP h1 ht).mono ?_
  rintro e w' ⟨s, rfl, bl', hA, hn, ht⟩
  exact ⟨s, rfl, hstep _ _ ⟨bl', hA, hn, ht⟩⟩
theorem Here.sealEnd (h : Here w0 l w) (i : Nat) {p n : Nat} {key : ByteArray} (t : ByteArray) (hi : l[i]? = some (OutTh K p key n)) (ht : t.size ≤ 2046) (h1 : 400 ≤ n) (h2 : n ≤ 1000000) : Calls Tryz.prog 17 #[.pointer (some ⟨p, 0, none⟩), .string t] w fun e w' => ∃ s, e = .returned (.tuple #[.string s, .int .i64 5]) ∧ Here w0 (l.set i (OutTh K p key (n + 1))) w' := by
  obtain ⟨bl, hP, _, hstep⟩ := h.focus i hi
  refine (K.sealEnd w bl p key n t hP ht h1 h2).mono ?_
  rintro e w' ⟨s, rfl, bl', hA, hn, ht⟩
  exact ⟨s, rfl, hstep _ _ ⟨bl', hA, hn, ht⟩⟩
theorem Here.outNext (h : Here w0 l w) (i : Nat) {p n : Nat} {key : ByteArray} (hi : l[i]? = some (OutTh K p key n)) (hn : n ≤ 400) : Calls Tryz.prog 19 #[.pointer (some ⟨p, 0, none⟩)] w fun e w' => e = .returned (.int .i64 (n : Int)) ∧ ∃ m, w' = w.drewN m := by
  obtain ⟨bl, hP, _, _⟩ := h.focus i hi
  exact K.outNext w bl p key n hP hn
theorem Here.outNextEnd (h : Here w0 l w) (i : Nat) {p n : Nat} {key : ByteArray} (hi : l[i]? = some (OutTh K p key n)) (hn : 400 ≤ n) : Calls Tryz.prog 19 #[.pointer (some ⟨p, 0, none⟩)] w fun e w' => e = .returned (.int .i64 400) ∧ ∃ m, w' = w.drewN m := by
  obtain ⟨bl, hP, _, _⟩ := h.focus i hi
  exact K.outNextEnd w bl p key n hP hn
theorem Here.inNext (h : Here w0 l w) (i : Nat) {p : Nat} {s : InS} (hi : l[i]? = some (InTh K p s)) : Calls Tryz.prog 24 #[.pointer (some ⟨p, 0, none⟩)] w fun e w' => e = .returned (.int .i64 (s.next : Int)) ∧ ∃ m, w' = w.drewN m := by
  obtain ⟨bl, hP, _, _⟩ := h.focus i hi
  exact K.inNext w bl p s hP
theorem Here.inWaits (h : Here w0 l w) (i : Nat) {p : Nat} {s : InS} (hi : l[i]? = some (InTh K p s)) : Calls Tryz.prog 25 #[.pointer (some ⟨p, 0, none⟩)] w fun e w' => e = .returned (.int .i64 (s.W.length : Int)) ∧ Here w0 (l.set i (InTh K p s)) w' := by
  obtain ⟨bl, hP, _, hstep⟩ := h.focus i hi
  refine (K.inWaits w bl p s hP).mono ?_
  rintro e w' ⟨rfl, hT⟩
  exact ⟨rfl, hstep _ _ hT⟩
theorem Here.open_ (h : Here w0 l w) (i : Nat) {p : Nat} {s : InS} (b : ByteArray) (hi : l[i]? = some (InTh K p s)) (hb : b.size ≤ 1000000) : Calls Tryz.prog 20 #[.pointer (some ⟨p, 0, none⟩), .string b] w fun e w' => ∃ a c, e = .returned (.tuple #[.slice a (outR s b).length c, .int .i64 (errR s b : Int)]) ∧
    Here w0 (TextsTh w0.heap.size (.slice a (outR s b).length c) (outR s b) :: l.set i (InTh K p (stepR s b))) w' := by
  obtain ⟨bl, hP, _, hstep⟩ := h.focus2 i hi
  refine (K.open_ w bl p s b hP hb).mono ?_
  rintro e w' ⟨v, bl', rfl, hown, hA, hn, ht⟩
  obtain ⟨a, c, rfl⟩ := hown.shape
  refine ⟨a, c, rfl, hstep (InTh K p (stepR s b)) (TextsTh w0.heap.size _ (outR s b)) w' bl' (fun k => (Value.slice a (outR s b).length c).ownBlock = some k) hA (fun k hk => (hn k hk).1) ⟨hown.base h.sz, fun k => Iff.rfl⟩ (fun k hk => ⟨(World.ownsRow.lt hown k hk).1, fun hk2 => (hn k hk2).2 hk⟩) ht⟩
end

end Go.Proofs.YtanghehmfagmfaaGreatDoor

/-
  The laws' alive over what package record tells.
-/
namespace Go.Proofs.YtanghehmfagmfaaGreatDoor
open Go.RowKit
set_option linter.unusedVariables false
set_option maxRecDepth 100000
set_option linter.unusedSimpArgs false

theorem bel_drewN13 (w : World) (m : Nat) : Below w.heap.size w (w.drewN m) := (⟨rfl, rfl, rfl, Nat.le_refl _, fun _ _ _ => rfl⟩ : Touch (fun _ => False) w (w.drewN m)).below (fun _ h => h.elim) (Nat.le_refl _)
set_option maxRecDepth 100000 in
set_option maxHeartbeats 2000000 in
theorem alive13_of (K : RecordKeeps) (w : World) : Calls Tryz.prog 13 #[] w fun e w' => e = .returned (.bool true) ∧ Below w.heap.size w w' := by
  have F1 : Hid _ := fun w => law5_fill32 ⟨#[107]⟩ w (by decide)
  have hk : (fillS ⟨#[107]⟩ 32).size = 32 := fillS_size _ _
  generalize fillS ⟨#[107]⟩ 32 = KK at *
  obtain ⟨q1, q2, q3, q4, q5, q6⟩ := alive13_s KK ⟨#[111, 110, 101]⟩ ⟨#[116, 119, 111]⟩ (by decide) (by decide)
  have z1 := recS_le KK 0 ⟨#[111, 110, 101]⟩ (by decide)
  have z2 := recS_le KK 1 ⟨#[116, 119, 111]⟩ (by decide)
  have H0 : Hid (Here w [] w) := Here.start w
  have P1 : Hid _ := fun w1 l (h : Here w l w1) => Here.newOut K h KK hk
  have P2 : Hid _ := fun w1 l (h : Here w l w1) => Here.newIn K h KK hk
  have P3 : Hid _ := fun w1 l (h : Here w l w1) => Here.newOutNo K h ⟨#[115, 104, 111, 114, 116]⟩ (by decide) (by decide)
  have P4 : Hid _ := fun w1 p q (h : Here w [InTh K q (InS.zero KK), OutTh K p KK 0] w1) => h.sealT 1 ⟨#[111, 110, 101]⟩ rfl (by decide) (by decide)
  have P5 : Hid _ := fun w1 p q (h : Here w [InTh K q (InS.zero KK), OutTh K p KK 1] w1) => h.sealT 1 ⟨#[116, 119, 111]⟩ rfl (by decide) (by decide)
  have P6 : Hid _ := fun w1 p q n (h : Here w [InTh K q (InS.zero KK), OutTh K p KK n] w1) => h.open_ 0 (recS KK 1 ⟨#[116, 119, 111]⟩) rfl (by omega)
  rw [q1, q2] at P6
  have P7 : Hid _ := fun w1 q (l : List Thing) v L (h : Here w (TextsTh w.heap.size v L :: InTh K q (stepR (InS.zero KK) (recS KK 1 ⟨#[116, 119, 111]⟩)) :: l) w1) => h.open_ 1 (recS KK 0 ⟨#[111, 110, 101]⟩) rfl (by omega)
  rw [q3, q4] at P7
  have P8 : Hid _ := fun w1 q (l : List Thing) v L v2 L2 (h : Here w (TextsTh w.heap.size v L :: TextsTh w.heap.size v2 L2 :: InTh K q (stepR (stepR (InS.zero KK) (recS KK 1 ⟨#[116, 119, 111]⟩)) (recS KK 0 ⟨#[111, 110, 101]⟩)) :: l) w1) => h.open_ 2 (recS KK 0 ⟨#[111, 110, 101]⟩) rfl (by omega)
  obtain ⟨n1, n2⟩ := step_no (s := stepR (stepR (InS.zero KK) (recS KK 1 ⟨#[116, 119, 111]⟩)) (recS KK 0 ⟨#[111, 110, 101]⟩)) (b := recS KK 0 ⟨#[111, 110, 101]⟩) (by rw [q6]; decide)
  rw [q6, n1, n2] at P8
  clear n1 n2
  go_enter Tryz.func13, Tryz.ntmps13
  go_wp2_with fail
  with_reducible refine (F1.out _).mono ?_
  rintro e w1 ⟨rfl, rfl⟩
  go_wp2_with fail
  with_reducible refine (P1.out _ _ H0.out).mono ?_
  rintro e w1 ⟨p, rfl, h1⟩
  clear H0
  go_wp2_with fail
  with_reducible refine (P2.out _ _ h1).mono ?_
  rintro e w2 ⟨q, rfl, h2⟩
  clear h1
  go_wp2_with fail
  with_reducible refine (P3.out _ _ h2).mono ?_
  rintro e w3 ⟨rfl, h3⟩
  clear h2
  go_wp2_with fail
  with_reducible refine (P4.out _ _ _ h3).mono ?_
  rintro e w4 ⟨rfl, h4⟩
  replace h4 : Here w [InTh K q (InS.zero KK), OutTh K p KK 1] w4 := h4
  clear h3
  go_wp2_with fail
  with_reducible refine (P5.out _ _ _ h4).mono ?_
  rintro e w5 ⟨rfl, h5⟩
  replace h5 : Here w [InTh K q (InS.zero KK), OutTh K p KK 2] w5 := h5
  clear h4
  go_wp2_with fail
  with_reducible refine (P6.out _ _ _ _ h5).mono ?_
  rintro e w6 ⟨a6, c6, rfl, h6⟩
  replace h6 : Here w [TextsTh w.heap.size (.slice a6 0 c6) [], InTh K q (stepR (InS.zero KK) (recS KK 1 ⟨#[116, 119, 111]⟩)), OutTh K p KK 2] w6 := h6
  clear h5
  go_wp2_with fail
  with_reducible refine (P7.out _ _ _ _ _ h6).mono ?_
  rintro e w7 ⟨a7, c7, rfl, h7⟩
  replace h7 : Here w [TextsTh w.heap.size (.slice a7 2 c7) [⟨#[111, 110, 101]⟩, ⟨#[116, 119, 111]⟩], TextsTh w.heap.size (.slice a6 0 c6) [], InTh K q (stepR (stepR (InS.zero KK) (recS KK 1 ⟨#[116, 119, 111]⟩)) (recS KK 0 ⟨#[111, 110, 101]⟩)), OutTh K p KK 2] w7 := h7
  clear h6
  go_wp2_with fail
  with_reducible refine (P8.out _ _ _ _ _ _ _ h7).mono ?_
  rintro e w8 ⟨a8, c8, rfl, h8⟩
  clear h7
  have hown := h8.texts 1 rfl
  obtain ⟨g, cap, e7, _, _⟩ := hown.form (by decide)
  injection e7 with e1 e2 e3
  subst e1 e3
  have c0 := hown.cell rfl 0 (by decide)
  have c1 := hown.cell rfl 1 (by decide)
  have PX := h8.inNext 3 rfl
  rw [q5] at PX
  have HB : Hid _ := h8.bel
  clear h8 hown e2 q1 q2 q3 q4 q5 q6 P1 P2 P3 P4 P5 P6 P7 P8 z1 z2 F1 hk
  go_wp2_with fail
  with_reducible refine PX.mono ?_
  rintro e w9 ⟨rfl, m, rfl⟩
  go_wp2
  go_ret
  exact ⟨rfl, HB.out.trans ((bel_drewN13 _ m).mono HB.out.size)⟩

end Go.Proofs.YtanghehmfagmfaaGreatDoor

/-
  An Out and an In in memory, plain: the cells of the keys, the texts that wait, what a taken number turns.
-/
namespace Go.Proofs.YtanghehmfagmfaaGreatDoor
open Go.RowKit
set_option linter.unusedVariables false
set_option maxRecDepth 100000
set_option linter.unusedSimpArgs false

/-- The keys of a direction: the first one, and for each epoch a Once and its key, if that was asked for. -/
structure KeySeg (key : ByteArray) (l : List Value) : Prop where
  first : l[0]? = some (.string key)
  each : ∀ e, e < 50 → (l[1 + e * 4]? = some (.int .u32 0) ∧ l[1 + e * 4 + 1]? = some (.int .i32 0) ∧ ∃ s, l[1 + e * 4 + 3]? = some (.string s)) ∨
    (l[1 + e * 4]? = some (.int .u32 1) ∧ l[1 + e * 4 + 3]? = some (.string (turnR key e)))
/-- Beside a range a row is as it was. -/
structure RowOut (a b : Nat) (l l' : List Value) : Prop where
  len : l'.length = l.length
  out : ∀ i, ¬ (a ≤ i ∧ i < b) → l'[i]? = l[i]?
section
variable {a b : Nat} {l l' l2 : List Value} {key : ByteArray}
theorem RowOut.refl (a b : Nat) (l : List Value) : RowOut a b l l := ⟨rfl, fun _ _ => rfl⟩
theorem RowOut.trans (h : RowOut a b l l') (h2 : RowOut a b l' l2) : RowOut a b l l2 := ⟨h2.len.trans h.len, fun i hi => (h2.out i hi).trans (h.out i hi)⟩
theorem RowOut.set (h : RowOut a b l l') (j : Nat) (h1 : a ≤ j) (h2 : j < b) (v : Value) : RowOut a b l (l'.set j v) :=
  ⟨by rw [List.length_set]; exact h.len, fun i hi => by rw [List.getElem?_set_ne (by omega)]; exact h.out i hi⟩
theorem KeySeg.lt (h : KeySeg key l) (e : Nat) (he : e < 50) : 1 + e * 4 + 3 < l.length := by
  rcases h.each e he with ⟨_, _, s, h3⟩ | ⟨_, h3⟩
  · exact (List.getElem?_eq_some_iff.1 h3).1
  · exact (List.getElem?_eq_some_iff.1 h3).1
theorem KeySeg.keep (h : KeySeg key l) (h2 : ∀ i, i < 201 → l'[i]? = l[i]?) : KeySeg key l' := by
  refine ⟨by rw [h2 0 (by omega)]; exact h.first, fun e he => ?_⟩
  rw [h2 _ (by omega), h2 _ (by omega), h2 _ (by omega)]
  exact h.each e he
/-- The key of an epoch is told for the first time. -/
theorem KeySeg.made (h : KeySeg key l) (e : Nat) (he : e < 50) : KeySeg key ((((l.set (1 + e * 4 + 1) (.int .i32 1)).set (1 + e * 4 + 3) (.string (turnR key e))).set (1 + e * 4) (.int .u32 1)).set (1 + e * 4 + 1) (.int .i32 0)) := by
  have hl := h.lt e he
  refine ⟨?_, fun i hi => ?_⟩
  · rw [List.getElem?_set_ne (by omega), List.getElem?_set_ne (by omega), List.getElem?_set_ne (by omega), List.getElem?_set_ne (by omega)]; exact h.first
  · by_cases hie : i = e
    · subst hie
      refine Or.inr ⟨?_, ?_⟩
      · rw [List.getElem?_set_ne (by omega), List.getElem?_set_self (by simp; omega)]
      · rw [List.getElem?_set_ne (by omega), List.getElem?_set_ne (by omega), List.getElem?_set_self (by simp; omega)]
    · have hh := h.each i hi
      have key2 : ∀ k, k < 4 → ((((l.set (1 + e * 4 + 1) (.int .i32 1)).set (1 + e * 4 + 3) (.string (turnR key e))).set (1 + e * 4) (.int .u32 1)).set (1 + e * 4 + 1) (.int .i32 0))[1 + i * 4 + k]? = l[1 + i * 4 + k]? := fun k hk => by
        rw [List.getElem?_set_ne (by omega), List.getElem?_set_ne (by omega), List.getElem?_set_ne (by omega), List.getElem?_set_ne (by omega)]
      generalize (((l.set (1 + e * 4 + 1) (Value.int .i32 1)).set (1 + e * 4 + 3) (.string (turnR key e))).set (1 + e * 4) (.int .u32 1)).set (1 + e * 4 + 1) (.int .i32 0) = X at *
      have e0 : X[1 + i * 4]? = l[1 + i * 4]? := key2 0 (by omega)
      rw [e0, key2 1 (by omega), key2 3 (by omega)]
      exact hh
theorem KeySeg.madeOut (l : List Value) (key : ByteArray) (e : Nat) (he : e < 50) : RowOut 1 201 l ((((l.set (1 + e * 4 + 1) (.int .i32 1)).set (1 + e * 4 + 3) (.string (turnR key e))).set (1 + e * 4) (.int .u32 1)).set (1 + e * 4 + 1) (.int .i32 0)) :=
  ((((RowOut.refl 1 201 l).set _ (by omega) (by omega) _).set _ (by omega) (by omega) _).set _ (by omega) (by omega) _).set _ (by omega) (by omega) _
end

/-- The numbers that wait. -/
def numsW (W : Wait) : List Int := W.map fun q => ((q.1 : Nat) : Int)
theorem mem_numsW {W : Wait} {n : Nat} : (n : Int) ∈ numsW W ↔ ∃ q ∈ W, q.1 = n := by
  unfold numsW
  rw [List.mem_map]
  constructor
  · rintro ⟨q, h1, h2⟩; exact ⟨q, h1, by omega⟩
  · rintro ⟨q, h1, rfl⟩; exact ⟨q, h1, rfl⟩
theorem numsW_mem {W : Wait} {x : Int} (h : x ∈ numsW W) : ∃ q ∈ W, ((q.1 : Nat) : Int) = x := List.mem_map.1 h

/-- The texts that wait, each at its place. -/
structure WaitSeg (W : Wait) (n : Nat) (l : List Value) : Prop where
  some_ : ∀ j, j < 64 → ∃ s, l[266 + j]? = some (.string s)
  at_ : ∀ q ∈ W, n ≤ q.1 → l[266 + q.1 % 64]? = some (.string q.2)
theorem WaitSeg.keep {W : Wait} {n : Nat} {l l' : List Value} (h : WaitSeg W n l) (h2 : ∀ i, 266 ≤ i → l'[i]? = l[i]?) : WaitSeg W n l' :=
  ⟨fun j hj => by rw [h2 _ (by omega)]; exact h.some_ j hj, fun q hq hn => by rw [h2 _ (by omega)]; exact h.at_ q hq hn⟩
/-- One more waits. -/
theorem WaitSeg.put {W : Wait} {n : Nat} {l : List Value} (h : WaitSeg W n l) (x : Nat) (t : ByteArray) (hx : n ≤ x ∧ x < n + 64) (hW : ∀ q ∈ W, n ≤ q.1 ∧ q.1 < n + 64 ∧ q.1 ≠ x) : WaitSeg (W ++ [(x, t)]) n (l.set (266 + x % 64) (.string t)) := by
  have hlt : x % 64 < 64 := Nat.mod_lt _ (by decide)
  obtain ⟨s0, hs0⟩ := h.some_ _ hlt
  have hlen := (List.getElem?_eq_some_iff.1 hs0).1
  refine ⟨fun j hj => ?_, fun q hq hn => ?_⟩
  · by_cases e : x % 64 = j
    · subst e; exact ⟨t, List.getElem?_set_self hlen⟩
    · rw [List.getElem?_set_ne (by omega)]; exact h.some_ j hj
  · rcases List.mem_append.1 hq with hq | hq
    · have := hW q hq
      rw [List.getElem?_set_ne (by omega)]
      exact h.at_ q hq hn
    · simp at hq; subst hq
      exact List.getElem?_set_self hlen
/-- The first that waits is told, and its place is free. -/
theorem WaitSeg.tell {W : Wait} {n m : Nat} {l : List Value} (h : WaitSeg W m l) (hW : ∀ q ∈ W, q.1 < n + 64) (hm : n ≤ m) (s : ByteArray) : WaitSeg W (m + 1) (l.set (266 + m % 64) (.string s)) := by
  have hlt : m % 64 < 64 := Nat.mod_lt _ (by decide)
  obtain ⟨s0, hs0⟩ := h.some_ _ hlt
  have hlen := (List.getElem?_eq_some_iff.1 hs0).1
  refine ⟨fun j hj => ?_, fun q hq hn => ?_⟩
  · by_cases e : m % 64 = j
    · subst e; exact ⟨s, List.getElem?_set_self hlen⟩
    · rw [List.getElem?_set_ne (by omega)]; exact h.some_ j hj
  · have := hW q hq
    rw [List.getElem?_set_ne (by omega)]
    exact h.at_ q hq (by omega)

/-- The cells of an In in a state. -/
structure InCells (s : InS) (l : List Value) : Prop where
  keys : KeySeg s.key l
  win : ∃ B, Places s.next (numsW s.W) B ∧ WinSeg 201 s.next B l
  wait : WaitSeg s.W s.next l

/-- What is taken: the window's first number behind it is that of what is told. -/
theorem take_first {s : InS} (h : s.Ok) {b : ByteArray} (ho : oldR s b = false) :
    firstW ((seqN b : Int) :: numsW s.W) 64 s.next = (moreR s b).2.1 ∧ s.next ≤ (moreR s b).2.1 ∧ (moreR s b).2.1 ≤ s.next + 64 ∧
    (moreR s b).1 = (List.range ((moreR s b).2.1 - s.next)).map (fun j => tOf (s.W ++ [(seqN b, textR s.key b)]) (s.next + j)) ∧
    (∀ q, q ∈ (moreR s b).2.2 ↔ q ∈ s.W ++ [(seqN b, textR s.key b)] ∧ (moreR s b).2.1 ≤ q.1) ∧
    (∀ j, s.next ≤ j → j < (moreR s b).2.1 → (j, tOf (s.W ++ [(seqN b, textR s.key b)]) j) ∈ s.W ++ [(seqN b, textR s.key b)]) := by
  obtain ⟨h1, h2, h3⟩ := old_no ho
  have hnd := more_nodup h ho (textR s.key b)
  have hmem : ∀ q, q ∈ s.W ++ [(seqN b, textR s.key b)] → s.next ≤ q.1 ∧ q.1 < s.next + 64 := fun q hq => by
    rcases List.mem_append.1 hq with hq | hq
    · have := h.range q hq; omega
    · simp at hq; subst hq; exact ⟨h1, h2⟩
  obtain ⟨r1, r2, r3, r4, r5, r6⟩ := tellW_spec (tOf (s.W ++ [(seqN b, textR s.key b)])) (s.W.length + 1) s.next (s.W ++ [(seqN b, textR s.key b)]) (by simp) hnd (fun q hq => ⟨(hmem q hq).1, tOf_is hnd hq⟩)
  have hin : ∀ x : Int, x ∈ (seqN b : Int) :: numsW s.W ↔ ∃ q ∈ s.W ++ [(seqN b, textR s.key b)], ((q.1 : Nat) : Int) = x := fun x => by
    rw [List.mem_cons]
    constructor
    · rintro (rfl | hx)
      · exact ⟨_, List.mem_append_right _ (List.mem_singleton.2 rfl), rfl⟩
      · obtain ⟨q, hq, e⟩ := numsW_mem hx
        exact ⟨q, List.mem_append_left _ hq, e⟩
    · rintro ⟨q, hq, rfl⟩
      rcases List.mem_append.1 hq with hq | hq
      · exact Or.inr (mem_numsW.2 ⟨q, hq, rfl⟩)
      · simp at hq; subst hq; exact Or.inl rfl
  unfold moreR
  refine ⟨firstW_is _ 64 s.next _ r1 (fun j g1 g2 => (hin _).2 ?_) (fun hm => ?_) (fun x hx => ?_), r1, ?_, r2, r3, fun j g1 g2 => ?_⟩
  · obtain ⟨q, hq, e⟩ := r4 j g1 g2
    exact ⟨q, hq, by rw [e]⟩
  · obtain ⟨q, hq, e⟩ := (hin _).1 hm
    exact r5 q hq (by omega)
  · obtain ⟨q, hq, rfl⟩ := (hin x).1 hx
    have := (hmem q hq).2
    omega
  · by_cases e : (tellW (s.W.length + 1) s.next (s.W ++ [(seqN b, textR s.key b)])).2.1 ≤ s.next
    · omega
    · obtain ⟨q, hq, e2⟩ := r4 ((tellW (s.W.length + 1) s.next (s.W ++ [(seqN b, textR s.key b)])).2.1 - 1) (by omega) (by omega)
      have := (hmem q hq).2
      omega
  · obtain ⟨q, hq, e⟩ := r4 j g1 g2
    have := tOf_is hnd hq
    rw [e] at this
    rw [← this, ← e]
    exact hq
/-- The window's places behind it. -/
theorem take_places {s : InS} (h : s.Ok) {b : ByteArray} (ho : oldR s b = false) {B : List Bool} (hB : Places (firstW ((seqN b : Int) :: numsW s.W) 64 s.next) ((seqN b : Int) :: numsW s.W) B) : Places (moreR s b).2.1 (numsW (moreR s b).2.2) B := by
  obtain ⟨e, _, _, _, r3, _⟩ := take_first h ho
  rw [e] at hB
  refine hB.same (fun j hj => ?_)
  rw [← Int.natCast_add, mem_numsW, List.mem_cons]
  constructor
  · rintro (hx | hx)
    · exact ⟨(seqN b, textR s.key b), (r3 _).2 ⟨List.mem_append_right _ (List.mem_singleton.2 rfl), by show _ ≤ seqN b; omega⟩, by show seqN b = _; omega⟩
    · obtain ⟨q, hq, eq⟩ := mem_numsW.1 hx
      exact ⟨q, (r3 q).2 ⟨List.mem_append_left _ hq, by omega⟩, eq⟩
  · rintro ⟨q, hq, eq⟩
    obtain ⟨hq, _⟩ := (r3 q).1 hq
    rcases List.mem_append.1 hq with hq | hq
    · exact Or.inr (mem_numsW.2 ⟨q, hq, eq⟩)
    · simp at hq; subst hq; exact Or.inl (by rw [← eq])
/-- Those ahead: as many as wait. -/
theorem ahead_count {n : Nat} : ∀ (W : Wait), (W.map Prod.fst).Nodup → (∀ q ∈ W, n ≤ q.1 ∧ q.1 < n + 64) → (aheadTo n (numsW W) 64).length = W.length := by
  intro W hd hr
  have h1 : ((List.range 64).map fun j : Nat => (n : Int) + (j : Int)).filter (fun x => decide (x ∈ numsW W)) = ((List.range 64).filter fun j : Nat => decide ((n : Int) + (j : Int) ∈ numsW W)).map fun j : Nat => (n : Int) + (j : Int) := by
    rw [List.filter_map]; rfl
  unfold aheadTo
  rw [h1, List.length_map]
  have h2 : ((List.range 64).filter fun j : Nat => decide ((n : Int) + (j : Int) ∈ numsW W)).Perm (W.map fun q => q.1 - n) := by
    refine (List.perm_ext_iff_of_nodup (List.Pairwise.filter _ List.nodup_range) ?_).2 (fun j => ?_)
    · have : (W.map fun q => q.1 - n) = (W.map Prod.fst).map fun x => x - n := by rw [List.map_map]; rfl
      rw [this]
      unfold List.Nodup at *
      rw [List.pairwise_map]
      refine (List.Pairwise.and_mem.1 hd).imp ?_
      rintro x y ⟨hx, hy, hne⟩ e
      obtain ⟨q, hq, rfl⟩ := List.mem_map.1 hx
      obtain ⟨q2, hq2, rfl⟩ := List.mem_map.1 hy
      have a := hr q hq
      have b := hr q2 hq2
      exact hne (by omega)
    · rw [List.mem_filter, List.mem_range, decide_eq_true_iff, ← Int.natCast_add, mem_numsW, List.mem_map]
      constructor
      · rintro ⟨hj, q, hq, e⟩; exact ⟨q, hq, by omega⟩
      · rintro ⟨q, hq, e⟩
        have a := hr q hq
        exact ⟨by omega, q, hq, by omega⟩
  rw [h2.length_eq, List.length_map]

end Go.Proofs.YtanghehmfagmfaaGreatDoor
