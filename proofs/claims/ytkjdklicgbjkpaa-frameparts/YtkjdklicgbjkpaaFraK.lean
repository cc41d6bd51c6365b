/-
  The contracts of package frame.
-/
import Derived.Test.YtkjdklicgbjkpaaFraK1
import Derived.Test.YtkjdklicgbjkpaaFraK2
import Derived.Test.YtkjdklicgbjkpaaShf0
import Derived.Deep.OwnRows
import Derived.BigQuiet
namespace Go.Proofs.Ytkjdklicgbjkpaa
open Go.RowKit
set_option linter.unusedVariables false
set_option maxRecDepth 100000
set_option linter.unusedSimpArgs false

theorem strings_clone (s : ByteArray) (w : World) (hs : s.size ≤ 1000000) : Calls Try.prog 59 #[.string s] w fun e w' => e = .returned (.string s) ∧ Below w.heap.size w w' := by
  go_enter Try.func59, Try.ntmps59
  go_wp2_with fail
  refine (Try.stringslite_Clone s _ (by omega)).mono ?_
  rintro e w' ⟨rfl, b⟩
  go_wp2
  go_ret
  exact ⟨rfl, b⟩
theorem frames_count : ∀ (n : Nat) (t : ByteArray), t.size ≤ n → (framesS t).length ≤ n
  | n, t, h => by
    match hf : framesS t with
    | [] => simp
    | f :: r =>
      obtain ⟨h2, hb, hp, _, hr, _⟩ := frames_cons t f r hf
      rw [hr, List.length_cons]
      match n with
      | 0 => omega
      | n + 1 =>
        have := frames_count n (t.extract (2 + headN t) t.size) (by rw [ByteArray.size_extract]; omega)
        omega
theorem vb9 {v : Value} {a b : Bool} (h : a = b) : Ending.returned (.tuple #[v, .bool (!a)]) = .returned (.tuple #[v, .bool (!b)]) := by rw [h]

def iNat : Value → Nat
  | .int _ x => x.toNat
  | _ => 0
theorem iNat_is (k : Nat) : iNat (.int .i64 (k : Int)) = k := Int.toNat_natCast k
theorem own_made9 {w2 : World} {base g n : Nat} {A : List ByteArray} (h : w2.ownsRow base 9 1 (.slice (some ⟨g, 0, none⟩) n n) n (madeCells #[.string ⟨#[]⟩] n).toList) : OwnT w2 base (.slice (some ⟨g, 0, none⟩) n n) (A.take 0 ++ List.replicate (n - 0) ⟨#[]⟩) := by
  rw [madeT] at h
  unfold OwnT
  rw [List.take_zero, List.nil_append, Nat.sub_zero, List.length_replicate]
  exact h
theorem row_grown9 {w w' : World} {p : Nat} {t : TypeId} {l : List Value} (h : RowIs w p t l) (hg : w.grownBy w' none) : RowIs w' p t l := by
  show w'.heap[p]? = _
  rw [(touch_grown hg).block p h.lt (by simp)]
  exact h

set_option maxRecDepth 100000 in
set_option maxHeartbeats 400000 in
theorem frame_live0 (w : World) (p : Nat) (l b s : ByteArray) (x0 : Int) (hr : RowIs w p 31 (RdRow l false x0)) (hs : l.size + b.size ≤ 1000000) (hse : Hid (l ++ b = s)) (hS1 : s.size ≤ 1000000) :
    Calls Try.prog 10 #[.pointer (some ⟨p, 0, none⟩), .string b] w fun e w' => ∃ v, OwnT w' w.heap.size v (framesS s) ∧ e = .returned (.tuple #[v, .bool (!deadS s)]) ∧ (∃ x : Int, RowIs w' p 31 (RdRow (leftS s) (deadS s) x)) ∧ Touch (fun k => k = p) w w' := by
  obtain ⟨i0, hi0, hz0, hz1, hz2⟩ := info_parts infoT
  have hnl : ¬ (9223372036854775807 < l.size + b.size) := by omega
  have hlt := hr.lt
  have c0 : w.cell? ⟨p, 0, none⟩ = some (.string l) := hr.cellAt rfl
  have c2 : w.cell? ⟨p, 2, none⟩ = some (.int .i64 x0) := hr.cellAt rfl
  have PD := frame_dead0 w p l false x0 hr
  have PL0 := i64_load ⟨p, 2, none⟩ x0 w c2
  have PL := frame_look w p l s x0 hr hS1
  rw [← hse.out] at PL
  have HC : Hid _ := frames_count 1000000 s hS1
  go_enter Try.func10, Try.ntmps10
  go_wp2_with fail
  with_reducible refine PD.mono ?_
  rintro e w' ⟨rfl, rfl⟩
  go_wp2_with fail
  with_reducible refine PL0.mono ?_
  rintro e w' ⟨rfl, rfl⟩
  go_wp2_with fail
  with_reducible refine PL.mono ?_
  rintro e w1 ⟨rfl, y, hr1, hy, t1⟩
  rw [hse.out] at hr1 hy
  have HY : Hid _ := hy
  clear hy PD PL0 PL c0 c2 hr hnl
  have q2 : w1.cell? ⟨p, 2, none⟩ = some (.int .i64 y) := hr1.cellAt rfl
  have PL2 := i64_load ⟨p, 2, none⟩ y w1 q2
  clear q2
  go_wp2_with fail
  with_reducible refine PL2.mono ?_
  rintro e w' ⟨rfl, rfl⟩
  clear PL2
  have hw1 := t1.size
  obtain ⟨n, hn⟩ : ∃ n, (framesS s).length = n := ⟨_, rfl⟩
  rw [hn] at HY HC
  have HN : Hid _ := hn
  have hn1 : n ≤ 1000000 := HC.out
  clear hn HC
  go_wp2_with (first | (refine wpList_make_full _ rfl _ _ 22 rfl w.heap.size 9 i0 (.string ⟨#[]⟩) 1 Try.underlying22 hi0 hz0 hz1 .i64 .i64 _ _ n rfl rfl HY.out HY.out (by rw [hz2]; omega) (by unfold maxLen; omega) hw1 ?_))
  intro w2 ho2 hg2
  have hgs : w1.heap.size < w2.heap.size := (World.ownsRow.lt ho2 _ rfl).2
  have ho : OwnT w2 w.heap.size (.slice (some ⟨w1.heap.size, 0, none⟩) n n) ((framesS s).take 0 ++ List.replicate (n - 0) ⟨#[]⟩) := own_made9 ho2
  have hr2 : RowIs w2 p 31 (RdRow l (deadS s) y) := row_grown9 hr1 hg2
  have T2 : Touch (fun k => k = p) w w2 := t1.grown hg2 (fun k hk => by cases hk)
  have hpg : w1.heap.size ≠ p := by omega
  have hbg : w.heap.size ≤ w1.heap.size := hw1
  clear ho2 hg2 hr1 t1 HY hw1 hgs
  generalize w1.heap.size = g at *
  go_wp2_with fail
  go_loopw [6, 34] (fun t i wr => ∃ (t' : ByteArray) (k : Nat), t = .string t' ∧ i = .int .i64 (k : Int) ∧ k ≤ n ∧ t'.size ≤ 1000000 ∧ OwnT wr w.heap.size (.slice (some ⟨g, 0, none⟩) n n) ((framesS s).take k ++ List.replicate (n - k) ⟨#[]⟩) ∧ Hid (framesS t' = (framesS s).drop k ∧ leftS t' = leftS s ∧ deadS t' = deadS s) ∧ RowIs wr p 31 (RdRow l (deadS s) y) ∧ Touch (fun k => k = p) w wr) (fun _ i _ => n - iNat i)
  case atStart => exact ⟨s, 0, by rw [hse.out], rfl, Nat.zero_le _, hS1, ho, ⟨rfl, rfl, rfl⟩, hr2, T2⟩
  case round =>
    clear ho hr2 T2
    obtain ⟨t, k, rfl, rfl, hk, hsz, hown, HF, hrow, ht⟩ := hrel
    by_cases hkn : k < n
    · have d1 : decide ((k : Int) < (n : Int)) = true := decide_eq_true (by omega)
      obtain ⟨f, r, hfr⟩ : ∃ f r, (framesS s).drop k = f :: r := by
        match hd : (framesS s).drop k with
        | [] => have := congrArg List.length hd; rw [List.length_drop, HN.out] at this; simp at this; omega
        | f :: r => exact ⟨f, r, rfl⟩
      obtain ⟨h2, hb, hp, e1, e2, e3, e4⟩ := frames_cons t f r (HF.out.1.trans hfr)
      have PC : Hid _ := fun w => frame_cut strings_clone t w hsz h2 hp
      have hY : (t.extract (2 + headN t) t.size).size ≤ 1000000 := by rw [ByteArray.size_extract]; omega
      rw [← e1] at PC
      have HR : Hid _ := (⟨e2, e3, e4⟩ : _ ∧ _ ∧ _)
      have HS : Hid _ := take_set (framesS s) ⟨#[]⟩ k f r hfr
      have HD : Hid ((framesS s).drop (k + 1) = r) := by
        show (framesS s).drop (k + 1) = r
        rw [← List.drop_drop, hfr]; rfl
      clear e1 e2 e3 e4 hb hp h2 hfr
      generalize t.extract (2 + headN t) t.size = Y at *
      go_wp2_with fail
      with_reducible refine (PC.out _).mono ?_
      rintro e w3 ⟨rfl, b3⟩
      have hown3 := OwnT.below hown b3
      have hrow3 := hrow.below b3 hrow.lt
      have hfrz := OwnT.frozen hown3 (by simp [HN.out]; omega) k
      have hcell := OwnT.cell hown3 (by simp [HN.out]; omega) k (by simp [HN.out]; omega)
      have hown4 := OwnT.store hown3 (by simp [HN.out]; omega) k f
      have hrow4 := hrow3.setOther (a := ⟨g, k, none⟩) (fun e => hpg e.symm) (.string f)
      have ht4 := (ht.trans (Touch.of_below b3)).set (p := ⟨g, k, none⟩) (Or.inr hbg) (.string f)
      have HS2 := HS.out
      rw [HN.out] at HS2
      rw [HS2] at hown4
      clear hown hown3 hrow hrow3 ht b3 HS HS2
      go_wp2
      go_roundw
      case rel => exact ⟨Y, k + 1, rfl, by rw [Int.natCast_add]; rfl, hkn, hY, hown4, ⟨HR.out.1.symm.trans HD.out.symm, HR.out.2.1.symm.trans HF.out.2.1, HR.out.2.2.symm.trans HF.out.2.2⟩, hrow4, ht4⟩
      case measure =>
        rw [show ((k : Int) + 1) = ((k + 1 : Nat) : Int) from rfl, iNat_is, iNat_is]; omega
    · have d1 : decide ((k : Int) < (n : Int)) = false := decide_eq_false (by omega)
      have hkn2 : k = n := by omega
      subst hkn2
      have e0 : (framesS s).drop k = [] := List.drop_of_length_le (by rw [HN.out]; exact Nat.le_refl _)
      have e1 := frames_none t (HF.out.1.trans e0)
      rw [HF.out.2.1, HF.out.2.2] at e1
      have HL : Hid _ := e1
      have PK := frame_keep strings_clone wr p l t (deadS s) y hrow hsz
      rw [← e1] at PK
      have e2 : (framesS s).take k ++ List.replicate (k - k) ⟨#[]⟩ = framesS s := by rw [Nat.sub_self, List.replicate_zero, List.append_nil, List.take_of_length_le (by rw [HN.out]; exact Nat.le_refl _)]
      rw [e2] at hown
      have hp : ∀ q, (Value.slice (some ⟨g, 0, none⟩) k k).ownBlock = some q → ¬ q = p := fun q hq e => by
        have := (World.ownsRow.lt hown q hq).1
        omega
      clear e0 e1 e2 hrow
      go_wp2_with fail
      with_reducible refine PK.mono ?_
      rintro e w5 ⟨rfl, hr5, t5⟩
      have q1 : w5.cell? ⟨p, 1, none⟩ = some (.bool (deadS s)) := hr5.cellAt rfl
      have hown5 := own_touch hown t5 hp
      have ht5 := ht.trans t5
      clear hown ht t5 PK
      go_wp2_with fail
      go_quiet (fail)
      go_wp2
      go_ret2
      exact ⟨_, hown5, rfl, ⟨y, hr5⟩, ht5.trans (touch_drewN _ _ _)⟩

theorem frame_live (w : World) (bl : Nat → Prop) (p : Nat) (l b : ByteArray) (h : RdOne w bl p l false) (hs : l.size + b.size ≤ 1000000) :
    Calls Try.prog 10 #[.pointer (some ⟨p, 0, none⟩), .string b] w fun e w' => ∃ v, OwnT w' w.heap.size v (framesS (l ++ b)) ∧ e = .returned (.tuple #[v, .bool (!deadS (l ++ b))]) ∧ (∃ x : Int, RowIs w' p 31 (RdRow (leftS (l ++ b)) (deadS (l ++ b)) x)) ∧ Touch (fun k => k = p) w w' := by
  obtain ⟨_, x0, hr⟩ := h
  exact frame_live0 w p l b (l ++ b) x0 hr hs (show l ++ b = l ++ b from rfl) (by rw [ByteArray.size_append]; exact hs)

theorem frame_gone (w : World) (bl : Nat → Prop) (p : Nat) (l b : ByteArray) (h : RdOne w bl p l true) :
    Calls Try.prog 10 #[.pointer (some ⟨p, 0, none⟩), .string b] w fun e w' => e = .returned (.tuple #[.slice none 0 0, .bool false]) ∧ w = w' := by
  obtain ⟨_, x0, hr⟩ := h
  have PD := frame_dead0 w p l true x0 hr
  clear hr
  go_enter Try.func10, Try.ntmps10
  go_wp2_with fail
  with_reducible refine PD.mono ?_
  rintro e w' ⟨rfl, rfl⟩
  go_wp2
  go_ret2
  exact ⟨rfl, rfl⟩

theorem rd_touch {S : Nat → Prop} {w w' : World} {bl : Nat → Prop} {p : Nat} {l : ByteArray} {d : Bool} (h : RdOne w bl p l d) (ht : Touch S w w') (hn : ∀ k, bl k → ¬ S k) : RdOne w' bl p l d := by
  obtain ⟨hb, x, hr⟩ := h
  refine ⟨hb, x, ?_⟩
  show w'.heap[p]? = _
  rw [ht.block p hr.lt (hn p ((hb p).2 rfl))]
  exact hr
theorem frame_feed (w : World) (bl : Nat → Prop) (p : Nat) (l : ByteArray) (d : Bool) (b : ByteArray) (h : RdOne w bl p l d) (hs : d = false → l.size + b.size ≤ 1000000) (hd : d = true → l = ⟨#[]⟩) :
    Calls Try.prog 10 #[.pointer (some ⟨p, 0, none⟩), .string b] w fun e w' => ∃ v bl', OwnT w' w.heap.size v (fedS l d b) ∧ e = .returned (.tuple #[v, .bool (!fedD l d b)]) ∧
      RdOne w' bl' p (fedL l d b) (fedD l d b) ∧ (∀ k, bl' k → (bl k ∨ w.heap.size ≤ k) ∧ v.ownBlock ≠ some k) ∧ Touch bl w w' := by
  have hb := h.1
  have hlt : p < w.heap.size := by obtain ⟨_, x, hr⟩ := h; exact hr.lt
  cases d with
  | false =>
    refine (frame_live w bl p l b h (hs rfl)).mono fun e w' hh => ?_
    obtain ⟨v, hv, he, hr, ht⟩ := hh
    refine ⟨v, bl, hv, he, ⟨hb, hr⟩, fun k hk => ⟨Or.inl hk, fun e2 => ?_⟩, ht.mono (fun k _ hk => (hb k).2 hk)⟩
    have h1 := (World.ownsRow.lt hv k e2).1
    have h2 := (hb k).1 hk
    omega
  | true =>
    obtain rfl := hd rfl
    refine (frame_gone w bl p _ b h).mono fun e w' hh => ?_
    obtain ⟨he, rfl⟩ := hh
    exact ⟨_, bl, World.ownsRow_nil _ _ _ _, he, h, fun k hk => ⟨Or.inl hk, by simp [Value.ownBlock]⟩, Touch.refl _ _⟩

def frameKeeps : FrameKeeps where
  Rd := RdOne
  lt := fun h k hk => by
    obtain ⟨hb, x, hr⟩ := h
    have := (hb k).1 hk
    have := hr.lt
    omega
  touch := rd_touch
  new := fun w => ⟨fun k => Iff.rfl, 0, RowIs.new w _ _⟩
  feed := frame_feed
  deadQ := frame_dead
  waitsQ := frame_waits
  feedNil := frame_feedNil
  deadNil := frame_deadNil
  waitsNil := frame_waitsNil
  put := frame_put

end Go.Proofs.Ytkjdklicgbjkpaa
