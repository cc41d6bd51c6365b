/- Promise P1003: for every reply r and every text b the law ReplyTells answers true at the landed code: package command makes the document's own bytes of r, or tells that it may not be put; it reads the document's own reply out of b, or tells that there is none; it reads r out of r's own bytes; it changes nothing behind the list that it was lent; the lists that it tells lie in memory of their own. No condition; longer values, keys and texts, and more keys, the law itself lets by. -/
import Derived.Test.YtgcbanmjfnnccaaGreatRows
import Derived.WalkKit
import Derived.ProofKit
import Derived.OpenShut
import Derived.ShutString
import Derived.Carry
import Derived.Test.YtgcbanmjfnnccaaGreatBun13
import Derived.Test.YtgcbanmjfnnccaaGreatBun24
import Derived.Test.YtgcbanmjfnnccaaGreatBun22
import Derived.Test.YtgcbanmjfnnccaaGreatBun26
import Derived.Test.YtgcbanmjfnnccaaGreatBun27
import Derived.Test.YtgcbanmjfnnccaaGreatBun28
namespace Go.Proofs.YtgcbanmjfnnccaaGreat.replyTells
open Go.ChangeShapes Go.WideShapes Go.ChangeAt Go.RowKit
open Go.ChangeMaps (open_string shut_string)
set_option linter.unusedVariables false
set_option maxRecDepth 100000

theorem own : ownKnob Tryz.prog.godebug = none := by kernel_rfl
theorem laidOut : laidOutB Tryz.prog = true := by kernel_rfl

set_option maxHeartbeats 4000000 in
set_option maxRecDepth 100000 in
theorem walk (e0 : Int) (t0 : ByteArray) (m0 v0 : Int) (o0 : Option Addr) (n0 c0 : Nat) (L0 : Nat → List UInt8) (e0w : I64 e0) (t0w : t0.size ≤ maxLen) (m0w : I64 m0) (v0w : I64 v0) (l0 : n0 ≤ maxLen) (L0w : ∀ i, i < n0 → (L0 i).length ≤ maxLen) (a1 : ByteArray) (w1 : a1.size ≤ maxLen) (w : World) (s0 : StrsAt w o0 n0 L0) (z0 : o0 = none → n0 = 0 ∧ c0 = 0) :
    Calls Tryz.prog 3 #[.agg #[.int .i64 e0, .string t0, .int .i64 m0, .int .i64 v0, .slice o0 n0 c0], .string a1] w fun e w' => e = .returned (.bool true) ∧ Below w.heap.size w w' := by
  have hrow : RowIs (w.alloc (.cells #[.int .i64 e0, .string t0, .int .i64 m0, .int .i64 v0, .slice o0 n0 c0] 25)) w.heap.size 25 [.int .i64 e0, .string t0, .int .i64 m0, .int .i64 v0, .slice o0 n0 c0] := RowIs.new w _ _
  have hbel : Below w.heap.size w (w.alloc (.cells #[.int .i64 e0, .string t0, .int .i64 m0, .int .i64 v0, .slice o0 n0 c0] 25)) := (Below.refl _ _).alloc (Nat.le_refl _) _
  have PP : Hid (∀ oa cap w, StrsAt w oa n0 L0 → _) := fun oa cap w hk => command_putReply e0 t0 m0 v0 oa n0 cap L0 w t0w l0 L0w hk
  have PR : Hid (∀ w, StrsAt w o0 n0 L0 → _) := fun w hk => ref_putReply e0 t0 m0 v0 o0 n0 c0 L0 w l0 L0w hk
  have HKW : Hid (∀ w', Below w.heap.size w w' → StrsAt w' o0 n0 L0) := fun w' hb => s0.later hb
  have HZ : Hid (o0 = none → n0 = 0 ∧ c0 = 0) := z0
  have HX : Hid _ := put_tells ⟨e0, t0, m0, v0, keysOf n0 L0⟩
  clear s0 z0 e0w m0w v0w L0w
  unfold maxLen at t0w l0 w1
  have hbig : 1000 < t0.size ∨ ¬ 1000 < t0.size ∧ 100 < n0 ∨ ¬ 1000 < t0.size ∧ ¬ 100 < n0 ∧ 3000 < a1.size ∨ ¬ 1000 < t0.size ∧ ¬ 100 < n0 ∧ ¬ 3000 < a1.size := by omega
  rcases hbig with h1 | ⟨h1, h2⟩ | ⟨h1, h2, h3⟩ | ⟨h1, h2, h3⟩
  · have d0 : decide (1000 < (t0.size : Int)) = true := decide_eq_true (by omega)
    clear hrow hbel
    go_enter Tryz.func3, Tryz.ntmps3
    go_wp2_with fail
    with_reducible refine (alive10 _).mono ?_
    rintro e u1 ⟨rfl, b1⟩
    go_wp2
    go_ret
    exact ⟨rfl, bel_new b1⟩
  · have d0 : decide (1000 < (t0.size : Int)) = false := decide_eq_false (by omega)
    have d1 : decide (100 < (n0 : Int)) = true := decide_eq_true (by omega)
    clear hrow hbel
    go_enter Tryz.func3, Tryz.ntmps3
    go_wp2_with fail
    with_reducible refine (alive10 _).mono ?_
    rintro e u1 ⟨rfl, b1⟩
    go_wp2
    go_ret
    exact ⟨rfl, bel_new b1⟩
  · have d0 : decide (1000 < (t0.size : Int)) = false := decide_eq_false (by omega)
    have d1 : decide (100 < (n0 : Int)) = false := decide_eq_false (by omega)
    have d2 : decide (3000 < (a1.size : Int)) = true := decide_eq_true (by omega)
    clear hrow hbel
    go_enter Tryz.func3, Tryz.ntmps3
    go_wp2_with fail
    with_reducible refine (alive10 _).mono ?_
    rintro e u1 ⟨rfl, b1⟩
    go_wp2
    go_ret
    exact ⟨rfl, bel_new b1⟩
  have d0 : decide (1000 < (t0.size : Int)) = false := decide_eq_false (by omega)
  have d1 : decide (100 < (n0 : Int)) = false := decide_eq_false (by omega)
  have d2 : decide (3000 < (a1.size : Int)) = false := decide_eq_false (by omega)
  have hn100 : n0 ≤ 100 := by omega
  have ha : a1.size ≤ 3000 := by omega
  clear h1 h2 h3 t0w l0 w1
  go_enter Tryz.func3, Tryz.ntmps3
  go_wp2_with fail
  with_reducible refine (alive10 _).mono ?_
  rintro e u1 ⟨rfl, b1⟩
  have rr := hrow.below b1 hrow.lt
  have hlt0 := rr.lt
  replace b1 := bel_new b1
  have hk1 : Hid (StrsAt u1 o0 n0 L0) := HKW.out _ b1
  have q0 : u1.cell? ⟨w.heap.size, 0, none⟩ = some (.int .i64 e0) := rr.cellAt rfl
  have q1 : u1.cell? ⟨w.heap.size, 1, none⟩ = some (.string t0) := rr.cellAt rfl
  have q2 : u1.cell? ⟨w.heap.size, 2, none⟩ = some (.int .i64 m0) := rr.cellAt rfl
  have q3 : u1.cell? ⟨w.heap.size, 3, none⟩ = some (.int .i64 v0) := rr.cellAt rfl
  have q4 : u1.cell? ⟨w.heap.size, 4, none⟩ = some (.slice o0 n0 c0) := rr.cellAt rfl
  have hrr := hide rr
  have hb1 := hide b1
  clear hrow hbel rr b1
  go_wp2_with fail
  go_loopw [5] (fun i wr => ∃ k : Nat, k ≤ n0 ∧ i = .int .i64 k ∧ wr = u1) (fun i _ => n0 - (intOf i).toNat)
  case atStart => exact ⟨0, Nat.zero_le _, rfl, rfl⟩
  case round =>
    obtain ⟨k, hk, rfl, rfl⟩ := hrel
    by_cases hlt : k < n0
    · obtain ⟨bb, oo, rfl, hc⟩ := hk1.out k hlt
      have dlt : decide ((k : Int) < (n0 : Int)) = true := by simp; omega
      have g0 : (0 : Int) ≤ (k : Int) := by omega
      have g1 : (k : Int) < (n0 : Int) := by omega
      clear PP PR HX HKW HZ
      generalize str (L0 k) = K at *
      by_cases hl : 100 < K.size
      · have d3 : decide (100 < (K.size : Int)) = true := decide_eq_true (by omega)
        go_wp2
        go_ret
        exact ⟨rfl, hb1.out⟩
      · have d3 : decide (100 < (K.size : Int)) = false := decide_eq_false (by omega)
        go_wp2
        go_roundw
        case rel => exact ⟨k + 1, by omega, by go_num, trivial⟩
        case measure => simp [intOf]; omega
    · obtain rfl : k = n0 := by omega
      have dlt : decide ((k : Int) < (k : Int)) = false := by simp
      clear hk hlt
      go_wp2_with fail
      have rm := RowIs.new wr 25 [.int .i64 e0, .string t0, .int .i64 m0, .int .i64 v0, .slice o0 k c0]
      have rr2 : RowIs (wr.alloc (.cells #[.int .i64 e0, .string t0, .int .i64 m0, .int .i64 v0, .slice o0 k c0] 25)) w.heap.size 25 [.int .i64 e0, .string t0, .int .i64 m0, .int .i64 v0, .slice o0 k c0] := hrr.out.alloc _
      have b2 : Below w.heap.size w (wr.alloc (.cells #[.int .i64 e0, .string t0, .int .i64 m0, .int .i64 v0, .slice o0 k c0] 25)) := hb1.out.alloc hb1.out.size _
      have z2 : (wr.alloc (.cells #[.int .i64 e0, .string t0, .int .i64 m0, .int .i64 v0, .slice o0 k c0] 25)).heap.size = wr.heap.size + 1 := by simp
      have PL := book_lentTexts (keysOf k L0) (.slice o0 k c0) _ (strs_reads (HKW.out _ b2) HZ.out) (by rw [keysOf_len]; omega)
      clear q0 q1 q2 q3 q4 hrr hb1 hk1 dlt d0 d1 d2
      have hRM := hide rm
      have hRR := hide rr2
      have hB2 := hide b2
      clear rm rr2 b2
      generalize wr.alloc (.cells #[.int .i64 e0, .string t0, .int .i64 m0, .int .i64 v0, .slice o0 k c0] 25) = u2 at *
      with_reducible refine PL.mono ?_
      rintro e u3 ⟨⟨lv, hL, rfl⟩, b3⟩
      rw [z2] at hL
      clear PL
      obtain ⟨lg, lc, rfl, hlg, hls⟩ := hL.strs
      have rm3 := RowIs.below hRM.out b3 (by omega)
      have rr3 := RowIs.below hRR.out b3 (by omega)
      have z3 : wr.heap.size + 1 ≤ u3.heap.size := by have := b3.size; omega
      have b4 := bel_chain8 hB2.out b3
      have hLL := hide hL
      clear hRM hRR hB2 b3 hL hls
      have y0 : u3.cell? ⟨wr.heap.size, 0, none⟩ = some (.int .i64 e0) := rm3.cellAt rfl
      have y1 : u3.cell? ⟨wr.heap.size, 1, none⟩ = some (.string t0) := rm3.cellAt rfl
      have y2 : u3.cell? ⟨wr.heap.size, 2, none⟩ = some (.int .i64 m0) := rm3.cellAt rfl
      have y3 : u3.cell? ⟨wr.heap.size, 3, none⟩ = some (.int .i64 v0) := rm3.cellAt rfl
      have y4 : u3.cell? ⟨wr.heap.size, 4, none⟩ = some (.slice o0 k c0) := rm3.cellAt rfl
      have yf : u3.frozen? ⟨wr.heap.size, 4, none⟩ = false := rm3.frozen 4
      have t4 := tells_begin (by omega) (by omega) rr3 rm3 b4 hLL.out
      have x0 : ((u3.setCell ⟨wr.heap.size, 4, none⟩ (.slice (some ⟨lg, 0, none⟩) k lc)).alloc (.cells #[.slice none 0 0, .slice none 0 0, .slice none 0 0, .slice none 0 0, .slice none 0 0, .slice none 0 0, .slice none 0 0, .slice none 0 0, .slice none 0 0, .slice none 0 0, .slice none 0 0, .slice none 0 0, .slice none 0 0, .slice none 0 0] 37)).cell? ⟨wr.heap.size, 0, none⟩ = some (.int .i64 e0) := RowIs.cellAt t4.rm rfl
      have x1 : ((u3.setCell ⟨wr.heap.size, 4, none⟩ (.slice (some ⟨lg, 0, none⟩) k lc)).alloc (.cells #[.slice none 0 0, .slice none 0 0, .slice none 0 0, .slice none 0 0, .slice none 0 0, .slice none 0 0, .slice none 0 0, .slice none 0 0, .slice none 0 0, .slice none 0 0, .slice none 0 0, .slice none 0 0, .slice none 0 0, .slice none 0 0] 37)).cell? ⟨wr.heap.size, 1, none⟩ = some (.string t0) := RowIs.cellAt t4.rm rfl
      have x2 : ((u3.setCell ⟨wr.heap.size, 4, none⟩ (.slice (some ⟨lg, 0, none⟩) k lc)).alloc (.cells #[.slice none 0 0, .slice none 0 0, .slice none 0 0, .slice none 0 0, .slice none 0 0, .slice none 0 0, .slice none 0 0, .slice none 0 0, .slice none 0 0, .slice none 0 0, .slice none 0 0, .slice none 0 0, .slice none 0 0, .slice none 0 0] 37)).cell? ⟨wr.heap.size, 2, none⟩ = some (.int .i64 m0) := RowIs.cellAt t4.rm rfl
      have x3 : ((u3.setCell ⟨wr.heap.size, 4, none⟩ (.slice (some ⟨lg, 0, none⟩) k lc)).alloc (.cells #[.slice none 0 0, .slice none 0 0, .slice none 0 0, .slice none 0 0, .slice none 0 0, .slice none 0 0, .slice none 0 0, .slice none 0 0, .slice none 0 0, .slice none 0 0, .slice none 0 0, .slice none 0 0, .slice none 0 0, .slice none 0 0] 37)).cell? ⟨wr.heap.size, 3, none⟩ = some (.int .i64 v0) := RowIs.cellAt t4.rm rfl
      have x4 : ((u3.setCell ⟨wr.heap.size, 4, none⟩ (.slice (some ⟨lg, 0, none⟩) k lc)).alloc (.cells #[.slice none 0 0, .slice none 0 0, .slice none 0 0, .slice none 0 0, .slice none 0 0, .slice none 0 0, .slice none 0 0, .slice none 0 0, .slice none 0 0, .slice none 0 0, .slice none 0 0, .slice none 0 0, .slice none 0 0, .slice none 0 0] 37)).cell? ⟨wr.heap.size, 4, none⟩ = some (.slice (some ⟨lg, 0, none⟩) k lc) := RowIs.cellAt t4.rm rfl
      have h4 := hide t4
      clear rm3 rr3 b4 t4 hLL y0 y1 y2 y3
      have hru : Hid (wr.heap.size < u3.heap.size) := by show _ < _; omega
      obtain ⟨de, ds, dn, dv, dk, DO, hD1, hD2, hD3, PG1, PG2⟩ := get_form a1 ha
      have P1 : Hid _ := PG1
      have P2 : Hid _ := PG2
      have HD3 := hide hD3
      clear PG1 PG2 hD1 hD2 hD3
      have hps : (Rep.put ⟨e0, t0, m0, v0, keysOf k L0⟩).size ≤ 3000 := by
        rcases HX.out with ⟨_, _, _, h, _⟩ | ⟨_, h⟩
        · exact h
        · rw [h]; decide
      obtain ⟨xe, xs, xn, xv, xk, XO, hX1, hX2, hX3, PX1, _⟩ := get_form _ hps
      have HXX : Hid ((Rep.ok ⟨e0, t0, m0, v0, keysOf k L0⟩ = true ∧ xe = e0 ∧ xs = t0 ∧ xn = m0 ∧ xv = v0 ∧ xk = keysOf k L0 ∧ XO = true) ∨ (Rep.ok ⟨e0, t0, m0, v0, keysOf k L0⟩ = false ∧ XO = false)) := by
        rcases HX.out with ⟨h, g1, g2, _, _⟩ | ⟨h, hp⟩
        · rw [hX1] at g1
          injection g1 with a b c d e
          exact Or.inl ⟨h, a, b, c, d, e, by rw [← hX2]; exact g2⟩
        · rw [hp] at hX2
          exact Or.inr ⟨h, by rw [← hX2]; exact getR_empty.2⟩
      have P3 : Hid _ := PX1
      have HX3 := hide hX3
      clear PX1 hX1 hX2 hX3 hps HX
      have e6 := str_beq_self (Rep.put ⟨e0, t0, m0, v0, keysOf k L0⟩)
      generalize Rep.put ⟨e0, t0, m0, v0, keysOf k L0⟩ = PUT at *
      generalize Rep.ok ⟨e0, t0, m0, v0, keysOf k L0⟩ = OK at *
      go_wp2_with fail
      generalize ((u3.setCell ⟨wr.heap.size, 4, none⟩ (.slice (some ⟨lg, 0, none⟩) k lc)).alloc (.cells #[.slice none 0 0, .slice none 0 0, .slice none 0 0, .slice none 0 0, .slice none 0 0, .slice none 0 0, .slice none 0 0, .slice none 0 0, .slice none 0 0, .slice none 0 0, .slice none 0 0, .slice none 0 0, .slice none 0 0, .slice none 0 0] 37)) = u4' at *
      have PQ := PP.out (some ⟨lg, 0, none⟩) lc u4' h4.out.le.strsAt
      with_reducible refine PQ.mono ?_
      rintro e u5 ⟨rfl, b5⟩
      have h5 := h4.out.below b5
      clear PQ PP b5 h4 x0 x1 x2 x3 x4
      have q0 : u5.cell? ⟨w.heap.size, 0, none⟩ = some (.int .i64 e0) := RowIs.cellAt h5.rr rfl
      have q1 : u5.cell? ⟨w.heap.size, 1, none⟩ = some (.string t0) := RowIs.cellAt h5.rr rfl
      have q2 : u5.cell? ⟨w.heap.size, 2, none⟩ = some (.int .i64 m0) := RowIs.cellAt h5.rr rfl
      have q3 : u5.cell? ⟨w.heap.size, 3, none⟩ = some (.int .i64 v0) := RowIs.cellAt h5.rr rfl
      have q4 : u5.cell? ⟨w.heap.size, 4, none⟩ = some (.slice o0 k c0) := RowIs.cellAt h5.rr rfl
      have hh5 := hide h5
      clear h5
      go_wp2_with fail
      have PQ := PR.out u5 (HKW.out _ hh5.out.bel)
      with_reducible refine PQ.mono ?_
      rintro e u6 ⟨rfl, b6⟩
      have h6 := hide (hh5.out.below b6)
      clear PQ PR b6 hh5 q0 q1 q2 q3 q4
      go_wp2_with fail
      with_reducible refine (P1.out u6).mono ?_
      rintro e u7 ⟨⟨dkv, hd, rfl⟩, b7⟩
      have fd := hide (free_made h6.out.bk hd)
      have h7 := hide (h6.out.below b7)
      have od := hide hd
      obtain ⟨da, dc, rfl⟩ := hd.shape
      have hs67 := hide b7.size
      clear b7 hd P1
      go_wp2_with fail
      have rd8 := hide (RowIs.new u7 25 [.int .i64 de, .string ds, .int .i64 dn, .int .i64 dv, .slice da dk.length dc])
      have od8 := hide (od.out.below ((Below.refl _ _).alloc (Nat.le_refl _) (.cells #[.int .i64 de, .string ds, .int .i64 dn, .int .i64 dv, .slice da dk.length dc] 25)))
      have h8 := hide (h7.out.alloc (.cells #[.int .i64 de, .string ds, .int .i64 dn, .int .i64 dv, .slice da dk.length dc] 25))
      have hs78 : Hid (u7.heap.size < (u7.alloc (.cells #[.int .i64 de, .string ds, .int .i64 dn, .int .i64 dv, .slice da dk.length dc] 25)).heap.size) := by show _ < _; simp
      generalize (u7.alloc (.cells #[.int .i64 de, .string ds, .int .i64 dn, .int .i64 dv, .slice da dk.length dc] 25)) = u8 at *
      with_reducible refine (P2.out u8).mono ?_
      rintro e u9 ⟨⟨ekv, he, rfl⟩, b9⟩
      have fe := hide (free_made h8.out.bk he)
      have h9 := hide (h8.out.below b9)
      have od9 := hide (od8.out.below b9)
      have rd9 := hide (RowIs.below rd8.out b9 (RowIs.lt rd8.out))
      have oe := hide he
      obtain ⟨ea, ec, rfl⟩ := he.shape
      have hs89 := hide b9.size
      clear b9 he P2 rd8 od8 od
      have re10 := hide (RowIs.new u9 25 [.int .i64 de, .string ds, .int .i64 dn, .int .i64 dv, .slice ea dk.length ec])
      have rd10 := RowIs.alloc rd9.out (.cells #[.int .i64 de, .string ds, .int .i64 dn, .int .i64 dv, .slice ea dk.length ec] 25)
      have hd4 : (u9.alloc (.cells #[.int .i64 de, .string ds, .int .i64 dn, .int .i64 dv, .slice ea dk.length ec] 25)).cell? ⟨u7.heap.size, 4, none⟩ = some (.slice da dk.length dc) := RowIs.cellAt rd10 rfl
      have od10 := hide (od9.out.below ((Below.refl _ _).alloc (Nat.le_refl _) (.cells #[.int .i64 de, .string ds, .int .i64 dn, .int .i64 dv, .slice ea dk.length ec] 25)))
      have oe10 := hide (oe.out.below ((Below.refl _ _).alloc (Nat.le_refl _) (.cells #[.int .i64 de, .string ds, .int .i64 dn, .int .i64 dv, .slice ea dk.length ec] 25)))
      have h10 := hide (h9.out.alloc (.cells #[.int .i64 de, .string ds, .int .i64 dn, .int .i64 dv, .slice ea dk.length ec] 25))
      have hs910 : Hid (u9.heap.size < (u9.alloc (.cells #[.int .i64 de, .string ds, .int .i64 dn, .int .i64 dv, .slice ea dk.length ec] 25)).heap.size) := by show _ < _; simp
      have hrd := hide rd10
      clear rd10 oe od9 rd9
      go_wp2_with fail
      clear hd4
      generalize (u9.alloc (.cells #[.int .i64 de, .string ds, .int .i64 dn, .int .i64 dv, .slice ea dk.length ec] 25)) = u10 at *
      have PT := h10.out.texts (od10.out.base h6.out.sz) (fd.out.later (by have := hs78.out; have := hs89.out; have := hs910.out; omega)) (by decide) (by have := HD3.out; omega)
      with_reducible refine PT.mono ?_
      rintro e u11 ⟨rfl, ⟨vo, wo, x1, h11, ol1⟩, tt⟩
      have oe11 := own_texts (fe.out.later (Nat.le_of_lt hs910.out)) oe10.out tt
      have rd11 := row_notB (notB_made h7.out.bk (Nat.le_refl _)) hrd.out tt
      have re11 := row_notB (notB_made h9.out.bk (Nat.le_refl _)) re10.out tt
      have od11 : OwnT u11 u3.heap.size (.slice da dk.length dc) dk := h11.bk.eachV 0 _ _ rfl rfl
      have d0 : u11.cell? ⟨u7.heap.size, 0, none⟩ = some (.int .i64 de) := RowIs.cellAt rd11 rfl
      have d1 : u11.cell? ⟨u7.heap.size, 1, none⟩ = some (.string ds) := RowIs.cellAt rd11 rfl
      have d2 : u11.cell? ⟨u7.heap.size, 2, none⟩ = some (.int .i64 dn) := RowIs.cellAt rd11 rfl
      have d3 : u11.cell? ⟨u7.heap.size, 3, none⟩ = some (.int .i64 dv) := RowIs.cellAt rd11 rfl
      have d4 : u11.cell? ⟨u7.heap.size, 4, none⟩ = some (.slice da dk.length dc) := RowIs.cellAt rd11 rfl
      have f0 : u11.cell? ⟨u9.heap.size, 0, none⟩ = some (.int .i64 de) := RowIs.cellAt re11 rfl
      have f1 : u11.cell? ⟨u9.heap.size, 1, none⟩ = some (.string ds) := RowIs.cellAt re11 rfl
      have f2 : u11.cell? ⟨u9.heap.size, 2, none⟩ = some (.int .i64 dn) := RowIs.cellAt re11 rfl
      have f3 : u11.cell? ⟨u9.heap.size, 3, none⟩ = some (.int .i64 dv) := RowIs.cellAt re11 rfl
      have f4 : u11.cell? ⟨u9.heap.size, 4, none⟩ = some (.slice ea dk.length ec) := RowIs.cellAt re11 rfl
      have hSR := hide (book_sameReply de ds dn dv dk (.slice da dk.length dc) (.slice ea dk.length ec) u11 (Reads.of_own od11) (Reads.of_own oe11) (by have := HD3.out; omega))
      have hh11 := hide h11
      have g1 : (OK != OK) = false := by cases OK <;> rfl
      have g2 : (DO != DO) = false := by cases DO <;> rfl
      clear PT tt oe11 rd11 re11 od11 h11 ol1 hs78 hs89 hs910 hs67 fd fe od10 oe10 h10 hrd re10 h9 h8 h7 h6
      go_wp2_with fail
      with_reducible refine hSR.out.mono ?_
      rintro e u12 ⟨rfl, b12⟩
      have h12 := hh11.out.below b12
      have q4 : u12.cell? ⟨w.heap.size, 4, none⟩ = some (.slice o0 k c0) := RowIs.cellAt h12.rr rfl
      have y4 : u12.cell? ⟨wr.heap.size, 4, none⟩ = some (.slice (some ⟨lg, 0, none⟩) k lc) := RowIs.cellAt h12.rm rfl
      have hh12 := hide h12
      clear h12 b12 hh11 hSR d0 d1 d2 d3 d4 f0 f1 f2 f3 f4
      have hST := hide (book_staysTexts (keysOf k L0) (wr.heap.size + 1) (.slice (some ⟨lg, 0, none⟩) k lc) (.slice o0 k c0) u12 hh12.out.le (strs_reads (HKW.out _ hh12.out.bel) HZ.out) (by rw [keysOf_len]; omega))
      go_wp2_with fail
      with_reducible refine hST.out.mono ?_
      rintro e u13 ⟨rfl, b13⟩
      have h13 := hide (hh12.out.below b13)
      clear hST b13 hh12 q4 y4
      go_wp2_with fail
      with_reducible refine (P3.out u13).mono ?_
      rintro e u14 ⟨⟨xkv, hx, rfl⟩, b14⟩
      have fx := hide (free_made h13.out.bk hx)
      have h14 := hide (h13.out.below b14)
      have ox := hide hx
      obtain ⟨xa, xc, rfl⟩ := hx.shape
      clear b14 hx
      go_wp2_with fail
      have rx15 := hide (RowIs.new u14 25 [.int .i64 xe, .string xs, .int .i64 xn, .int .i64 xv, .slice xa xk.length xc])
      have ox15 := hide (ox.out.below ((Below.refl _ _).alloc (Nat.le_refl _) (.cells #[.int .i64 xe, .string xs, .int .i64 xn, .int .i64 xv, .slice xa xk.length xc] 25)))
      have h15 := hide (h14.out.alloc (.cells #[.int .i64 xe, .string xs, .int .i64 xn, .int .i64 xv, .slice xa xk.length xc] 25))
      have hs1415 : Hid (u14.heap.size < (u14.alloc (.cells #[.int .i64 xe, .string xs, .int .i64 xn, .int .i64 xv, .slice xa xk.length xc] 25)).heap.size) := by show _ < _; simp
      generalize (u14.alloc (.cells #[.int .i64 xe, .string xs, .int .i64 xn, .int .i64 xv, .slice xa xk.length xc] 25)) = u15 at *
      with_reducible refine (P3.out u15).mono ?_
      rintro e u16 ⟨⟨ykv, hy, rfl⟩, b16⟩
      have fy := hide (free_made h15.out.bk hy)
      have h16 := hide (h15.out.below b16)
      have ox16 := hide (ox15.out.below b16)
      have rx16 := hide (RowIs.below rx15.out b16 (RowIs.lt rx15.out))
      have oy := hide hy
      have hap : Hid (Apart2 (.slice xa xk.length xc) ykv) := fun j h1 h2 => by
        have a1 := (World.ownsRow.lt ox.out j h1).2
        have a2 := (World.ownsRow.lt hy j h2).1
        have a3 := hs1415.out
        omega
      obtain ⟨ya, yc, rfl⟩ := hy.shape
      have hs1516 := hide b16.size
      clear b16 hy P3 rx15 ox15 ox
      have ry17 := hide (RowIs.new u16 25 [.int .i64 xe, .string xs, .int .i64 xn, .int .i64 xv, .slice ya xk.length yc])
      have rx17 := RowIs.alloc rx16.out (.cells #[.int .i64 xe, .string xs, .int .i64 xn, .int .i64 xv, .slice ya xk.length yc] 25)
      have hx4 : (u16.alloc (.cells #[.int .i64 xe, .string xs, .int .i64 xn, .int .i64 xv, .slice ya xk.length yc] 25)).cell? ⟨u14.heap.size, 4, none⟩ = some (.slice xa xk.length xc) := RowIs.cellAt rx17 rfl
      have ox17 := hide (ox16.out.below ((Below.refl _ _).alloc (Nat.le_refl _) (.cells #[.int .i64 xe, .string xs, .int .i64 xn, .int .i64 xv, .slice ya xk.length yc] 25)))
      have oy17 := hide (oy.out.below ((Below.refl _ _).alloc (Nat.le_refl _) (.cells #[.int .i64 xe, .string xs, .int .i64 xn, .int .i64 xv, .slice ya xk.length yc] 25)))
      have h17 := hide (h16.out.alloc (.cells #[.int .i64 xe, .string xs, .int .i64 xn, .int .i64 xv, .slice ya xk.length yc] 25))
      have hs1617 : Hid (u16.heap.size < (u16.alloc (.cells #[.int .i64 xe, .string xs, .int .i64 xn, .int .i64 xv, .slice ya xk.length yc] 25)).heap.size) := by show _ < _; simp
      have hrx := hide rx17
      clear rx17 oy ox16 rx16
      go_wp2_with fail
      clear hx4
      generalize (u16.alloc (.cells #[.int .i64 xe, .string xs, .int .i64 xn, .int .i64 xv, .slice ya xk.length yc] 25)) = u17 at *
      have PT := h17.out.texts (ox17.out.base h13.out.sz) (fx.out.later (by have := hs1415.out; have := hs1516.out; have := hs1617.out; omega)) (by simp) (by have := HX3.out; omega)
      with_reducible refine PT.mono ?_
      rintro e u18 ⟨rfl, ⟨vo2, wo2, x2, h18, ol2⟩, tt⟩
      have nx := notB_made h14.out.bk (Nat.le_refl _)
      have ny := notB_made h16.out.bk (Nat.le_refl _)
      have fy17 := fy.out.later (Nat.le_of_lt hs1617.out)
      have oy18 := hide (own_texts fy17 oy17.out tt)
      have fy18 := hide (free_more fy17 hap.out ol2 tt.size)
      have rx18 := hide (row_notB nx hrx.out tt)
      have ry18 := row_notB ny ry17.out tt
      have nx2 := hide (notB_more nx ol2 (RowIs.lt hrx.out))
      have hy4 : u18.cell? ⟨u16.heap.size, 4, none⟩ = some (.slice ya xk.length yc) := RowIs.cellAt ry18 rfl
      have hh18 := hide h18
      have hsz15 : Hid (u3.heap.size ≤ u15.heap.size) := h15.out.sz
      clear PT tt h18 ol2 ry18 ny nx fy17 oy17 ry17 hrx hap fy fx ox17 h17 h16 h15 h14 h13 hs1415 hs1516 hs1617
      go_wp2_with fail
      clear hy4
      have PT := hh18.out.texts (oy18.out.base hsz15.out) fy18.out (by simp) (by have := HX3.out; omega)
      with_reducible refine PT.mono ?_
      rintro e u19 ⟨rfl, ⟨vo3, wo3, x3, h19, ol3⟩, tt⟩
      have rx19 := row_notB nx2.out rx18.out tt
      have ox19 : OwnT u19 u3.heap.size (.slice xa xk.length xc) xk := h19.bk.eachV 1 _ _ rfl rfl
      have hlen : ∀ l ∈ ([] ++ [dk] ++ [xk] ++ [xk] : List (List ByteArray)), l.length ≤ 1000000 := by
        have := HD3.out
        have := HX3.out
        intro l hl
        simp at hl
        rcases hl with rfl | rfl <;> omega
      have HLEN := hide hlen
      clear hlen PT tt ol3 oy18 fy18 rx18 nx2 hh18 hsz15
      rcases HXX.out with ⟨rfl, rfl, rfl, rfl, rfl, rfl, rfl⟩ | ⟨rfl, rfl⟩
      · clear HXX
        have q0 : u19.cell? ⟨w.heap.size, 0, none⟩ = some (.int .i64 xe) := RowIs.cellAt h19.rr rfl
        have q1 : u19.cell? ⟨w.heap.size, 1, none⟩ = some (.string xs) := RowIs.cellAt h19.rr rfl
        have q2 : u19.cell? ⟨w.heap.size, 2, none⟩ = some (.int .i64 xn) := RowIs.cellAt h19.rr rfl
        have q3 : u19.cell? ⟨w.heap.size, 3, none⟩ = some (.int .i64 xv) := RowIs.cellAt h19.rr rfl
        have q4 : u19.cell? ⟨w.heap.size, 4, none⟩ = some (.slice o0 k c0) := RowIs.cellAt h19.rr rfl
        have x0 : u19.cell? ⟨u14.heap.size, 0, none⟩ = some (.int .i64 xe) := RowIs.cellAt rx19 rfl
        have x1 : u19.cell? ⟨u14.heap.size, 1, none⟩ = some (.string xs) := RowIs.cellAt rx19 rfl
        have x2 : u19.cell? ⟨u14.heap.size, 2, none⟩ = some (.int .i64 xn) := RowIs.cellAt rx19 rfl
        have x3 : u19.cell? ⟨u14.heap.size, 3, none⟩ = some (.int .i64 xv) := RowIs.cellAt rx19 rfl
        have x4 : u19.cell? ⟨u14.heap.size, 4, none⟩ = some (.slice xa (keysOf k L0).length xc) := RowIs.cellAt rx19 rfl
        have hSR := hide (book_sameReply xe xs xn xv (keysOf k L0) (.slice xa (keysOf k L0).length xc) (.slice o0 k c0) u19 (Reads.of_own ox19) (strs_reads (HKW.out _ h19.bel) HZ.out) (by rw [keysOf_len]; omega))
        have hh19 := hide h19
        clear h19 rx19 ox19
        go_wp2_with fail
        with_reducible refine hSR.out.mono ?_
        rintro e u20 ⟨rfl, b20⟩
        have h20 := hide (hh19.out.below b20)
        clear b20 hh19 hSR q0 q1 q2 q3 q4 x0 x1 x2 x3 x4
        go_wp2_with fail
        with_reducible refine (h20.out.apart (by simp) HLEN.out).mono ?_
        rintro e u21 ⟨rfl, b21⟩
        go_wp2
        go_ret
        exact ⟨rfl, b21⟩
      · clear HXX
        have hh19 := hide h19
        clear h19 rx19 ox19
        go_wp2_with fail
        with_reducible refine (hh19.out.apart (by simp) HLEN.out).mono ?_
        rintro e u21 ⟨rfl, b21⟩
        go_wp2
        go_ret
        exact ⟨rfl, b21⟩

set_option maxRecDepth 100000 in
theorem lifted (os : Os) (started : os.Started) (H : Type) (enc : TypeId × Value → H) :
    ReturnsInHanded {} Tryz.checked os 3 .any (Rows.replyTellsSpec.pre6 enc Tryz.prog Tryz.f3 Rows.replyTellsRow.domain false) (Rows.replyTellsSpec.post enc Tryz.prog Tryz.f3 false true false false) := by
  refine returnsInHanded_of_change (C := Tryz.checked) own started (by kernel_rfl) Tryz.func3
    (ChangeSpec.witness6 (enc := enc) (C := Tryz.checked) false ⟨#[], #[.agg #[.int .i64 0, .string ByteArray.empty, .int .i64 0, .int .i64 0, .slice none 0 0], .string ByteArray.empty], []⟩ 8 (by kernel_rfl) (by kernel_rfl) (by kernel_rfl) (by kernel_rfl)) ?_
  intro W base args ds gs before hval0 hW hcnd _
  have hval : ∀ (j : Nat) t v, Tryz.f3.params[j]? = some t → args[j]? = some v → Value.okWide Tryz.prog W .any base t v := hval0
  have hW' := hW
  obtain ⟨p, q, hA0, hV, rfl, hfz, hnd⟩ := hW
  have hA : DataW.TrodAll enc Tryz.prog W 0 (fun _ => true) true Tryz.f3.params.toList args.toList ds p := hA0
  rw [Tryz.params3] at hA hval
  obtain ⟨v0, vs0, d0, ds0, p0, q0, hargs, rfl, rfl, h0, r0⟩ := trodAll_cons hA
  obtain ⟨v1, vs1, d1, ds1, p1, q1, rfl, rfl, rfl, h1, r1⟩ := trodAll_cons r0
  obtain ⟨rfl, rfl, rfl⟩ := trodAll_nil r1
  obtain rfl : args = #[v0, v1] := by cases args; simp_all
  obtain ⟨rfl, rfl⟩ := trodVars_none hV
  have h0k := h0
  have hlt0 : ∀ x ∈ p0, x.block < W.heap.size := fun x hx => by simpa using hW'.lt x (by simp [hx])
  obtain ⟨e0, t0, m0, V0, o0, n0, c0, L0, rfl, e0w, t0w, m0w, v0w, l0, L0w, s0, z0⟩ := rep_open (hval 0 25 v0 rfl rfl) h0
  obtain ⟨a1, rfl, rfl, rfl, w1⟩ := open_string Tryz.underlying9 (hval 1 9 v1 rfl rfl) h1
  clear hA0 hval0
  simp only [List.append_nil] at hW'
  refine (walk e0 t0 m0 V0 o0 n0 c0 L0 e0w t0w m0w v0w l0 L0w a1 w1 W s0 z0).mono fun e W' ⟨he, hg⟩ => ?_
  subst he
  exact ⟨_, rfl, _, _, _, _, _, _, hW', (trodAll_cons_mk (shut_bool Tryz.underlying4 _) trodAll_mk0), (trodAll_cons_mk (Below.trod laidOut (by kernel_rfl) (of_decide_eq_true (by kernel_rfl)) h0k hg hlt0) (trodAll_cons_mk (shut_string Tryz.underlying9 w1) trodAll_mk0)), rfl, hg.frame _, fun h => by cases h⟩

theorem over : Rows.replyTellsRow.holds Tryz.pinned (OpenSpec.ofChange Rows.replyTellsSpec) :=
  OpenClaim.holds_of_wide 3 Tryz.f3 rfl rfl rfl rfl rfl rfl rfl ⟨rfl, rfl, rfl, rfl, rfl⟩ rfl rfl rfl rfl rfl (by kernel_rfl) Tryz.func3 (by kernel_rfl)
    (of_decide_eq_true (by kernel_rfl)) (by unfold Func.isWrapper; first | (rw [if_pos (by decide +kernel)]; kernel_rfl) | (rw [if_neg (by decide +kernel)]; exact ⟨rfl, rfl⟩))
    (fun os started H enc _ => lifted os started H enc)

theorem proved : Rows.ReplyTellsSaid :=
  over
#print axioms proved
end Go.Proofs.YtgcbanmjfnnccaaGreat.replyTells
