/-
  Parts of this proof, one behind the other: Usr14, Usr15, Usr16.
-/
import Derived.Test.YtjemklgfenciaaaGreatBun26
import Derived.Test.YtjemklgfenciaaaGreatBun14

/-
  The reference's book of users: Books. Its one region draws its order: each of its rows is of a block of its own.
-/
namespace Go.Proofs.YtjemklgfenciaaaGreat
open Go.RowKit
set_option linter.unusedVariables false
set_option maxRecDepth 100000
set_option linter.unusedSimpArgs false

theorem infoBo : (Tryz.prog.info? 4).map (fun i => (i.zero, i.size, i.bytes)) = some (some (.bool false), 1, 1) := by kernel_rfl
theorem madeOne (z : Value) (n : Nat) : madeCells #[z] n = (List.replicate n z).toArray := Array.toList_inj.1 (by rw [toList_madeCells_one])
theorem makeI14 (n : Nat) (hn : n ≤ 1000) (w : World) : (Instr.makeSlice 52 (.int .i64 (n : Int)) (.int .i64 (n : Int))).run Tryz.prog w = .ok (.slice (some ⟨w.heap.size, 0, none⟩) n n) (w.alloc (.cells (List.replicate n (.int .i64 0)).toArray 3)) := by
  obtain ⟨i0, hi, hz0, hz1, hz2⟩ := info_parts infoI
  have hr := run_make (P := Tryz.prog) w 52 3 i0 (.int .i64 0) Tryz.underlying52 hi hz0 .i64 .i64 n n (by omega) (Int.le_refl _) (by rw [hz2]; omega) (by omega)
  simp only [Int.toNat_natCast] at hr
  rw [hr, hz1, Nat.mul_one, ← madeOne]
  rfl
theorem makeB14 (n : Nat) (hn : n ≤ 1000) (w : World) : (Instr.makeSlice 53 (.int .i64 (n : Int)) (.int .i64 (n : Int))).run Tryz.prog w = .ok (.slice (some ⟨w.heap.size, 0, none⟩) n n) (w.alloc (.cells (List.replicate n (.bool false)).toArray 4)) := by
  obtain ⟨i0, hi, hz0, hz1, hz2⟩ := info_parts infoBo
  have hr := run_make (P := Tryz.prog) w 53 4 i0 (.bool false) Tryz.underlying53 hi hz0 .i64 .i64 n n (by omega) (Int.le_refl _) (by rw [hz2]; omega) (by omega)
  simp only [Int.toNat_natCast] at hr
  rw [hr, hz1, Nat.mul_one, ← madeOne]
  rfl
theorem own_belowU {w w' : World} {base : Nat} {e : TypeId} {z : Nat} {v : Value} {n : Nat} {xs : List Value} (h : w.ownsRow base e z v n xs) (hb : Below w.heap.size w w') : w'.ownsRow base e z v n xs := by
  refine ⟨h.1, ?_⟩
  rcases h.2 with h2 | ⟨g, cap, cur, rfl, hbg, hg, r⟩
  · exact Or.inl h2
  · exact Or.inr ⟨g, cap, cur, rfl, hbg, by rw [hb.block g (Array.getElem?_eq_some_iff.1 hg).1]; exact hg, r⟩
theorem own_base0 {w : World} {base : Nat} {v : Value} {L : List NS} (h : OwnP w base v L) : OwnP w 0 v L := by
  refine ⟨h.1, ?_⟩
  rcases h.2 with h2 | ⟨g, cap, cur, e, hbg, r⟩
  · exact Or.inl h2
  · exact Or.inr ⟨g, cap, cur, e, Nat.zero_le _, r⟩
theorem run_moveU {P : Program} {a : Act} {o : Oper} {x : Operand} {v : Value} (ho : o.op = .move x) (hx : a.eval x = v) (w : World) : (execOp a.eval o).run P w = .ok (.value v) w := by
  subst hx
  unfold execOp
  simp [ho]
theorem run_lenU {P : Program} {a : Act} {o : Oper} {x : Operand} {t e : TypeId} {ts : Array TypeId} {p : Option Addr} {n c : Nat} (ho : o.op = .call { callee := .builtin .len, args := #[x], argTypes := ts }) (hx : a.eval x = .slice p n c) (ht : ts[0]? = some t) (hu : P.underlying t = some (.slice e)) (w : World) :
    (execOp a.eval o).run P w = .ok (.value (.int .i64 (n : Int))) w := by
  revert hx
  generalize a.eval = ev
  intro hx
  unfold execOp
  simp [ho, go_sem, hx, Builtin.len_, ht, run_underlying hu]
theorem run_makeU {P : Program} {a : Act} {o : Oper} {t : TypeId} {x y : Operand} {u v r : Value} {w w' : World} (ho : o.op = .makeSlice t x y) (hx : a.eval x = u) (hy : a.eval y = v) (h : (Instr.makeSlice t u v).run P w = .ok r w') : (execOp a.eval o).run P w = .ok (.value r) w' := by
  unfold execOp
  simp only [ho, hx, hy, Sem.run_bind, h]
  rfl
theorem run_buildU {P : Program} {a : Act} {o : Oper} {t : TypeId} {parts : Array (Nat × Operand)} {cells : Array Value} (ho : o.op = .build t parts) (w : World) (h : P.built t (parts.map fun (i, x) => (i, a.eval x)).toList = some cells) : (execOp a.eval o).run P w = .ok (.value (.agg cells)) w := by
  unfold execOp
  simp only [ho, Sem.run_bind, run_build w t _ cells h, Result.andThen_ok]
  rfl
theorem run_boxU {P : Program} {a : Act} {o : Oper} {t : TypeId} {x : Operand} {z : Array Value} (ho : o.op = .box t x) (hx : a.eval x = .agg z) (w : World) : (execOp a.eval o).run P w = .ok (.value (.pointer (some ⟨w.heap.size, 0, none⟩))) (w.alloc (.cells z t)) := by
  unfold execOp
  simp only [ho, hx, Value.cells, Sem.run_bind, Instr.box, newVar, newRow, run_newObj_alloc, Sem.run_pure, Result.andThen_ok]
theorem builtBk (a b c d : Option Addr) (n1 c1 n2 c2 n3 c3 n4 c4 : Nat) : Tryz.prog.built 55 [(0, .slice a n1 c1), (1, .slice b n2 c2), (2, .slice c n3 c3), (3, .slice d n4 c4)] = some #[.slice a n1 c1, .slice b n2 c2, .slice c n3 c3, .slice d n4 c4] := by kernel_rfl
theorem results_ofU {fn : Func} {t : Tmp} (h : fn.results = #[.tmp t]) {a : Act} (P : Program) (w : World) : (results fn a.tmps).run P w = .ok (a.eval (.tmp t)) w := by
  rw [results_tmp h]
  simp [Act.eval]
/-- Users, appended to nil. -/
theorem run_append_pairs (w : World) (base : Nat) (ty : TypeId) (ao : Option Addr) (n cap : Nat) (X : Nat → NS) (hP : PairsAt w ao n X) (hno : ao = none → cap = 0 ∧ n = 0) (hn : n ≤ 1000) (hbase : base ≤ w.heap.size) :
    ∃ v' w', (Builtin.append_ #[22, 22] ty #[.slice none 0 0, .slice ao n cap]).run Tryz.prog w = .ok v' w' ∧ OwnP w' base v' (listU X n) ∧ Below w.heap.size w w' ∧ ∀ k, blkOf v' = some k → w.heap.size ≤ k ∧ k < w'.heap.size := by
  obtain ⟨i, hi, hz, hs, hb⟩ := info_parts infoNS
  have hown : w.ownsRow base 32 2 (.slice none 0 0) 0 [] := ⟨rfl, Or.inl ⟨rfl, rfl⟩⟩
  have hlen : (listU X n).length = n := by unfold listU; simp
  cases ao with
  | none =>
    obtain ⟨rfl, rfl⟩ := hno rfl
    exact ⟨_, w, run_append_owned_none w base _ ty _ i 2 Tryz.underlying22 hi _ 0 [] hown, OwnP.nil _ _, Below.refl _ _, fun k h => by cases h⟩
  | some ad =>
    obtain ⟨v', w', hr, ho, hg, hat⟩ := run_append_two (P := Tryz.prog) w base 22 ty _ i _ 2 32 Tryz.underlying22 hi hz hs hb rfl (by decide) _ 0 [] hown ad n cap (cellsP (listU X n)) (by rw [cellsP_len, hlen]) (fun j u hj => by
      have hjl : j < n * 2 := by have := (List.getElem?_eq_some_iff.1 hj).1; rwa [cellsP_len, hlen] at this
      obtain ⟨b, o, e, h1, h2⟩ := hP (j / 2) (by omega)
      obtain rfl := Option.some.inj e
      obtain ⟨c1, c2⟩ := cellsP_at (listU X n) (j / 2) (by rw [hlen]; omega)
      have hX : (listU X n).getD (j / 2) nsNone = X (j / 2) := by
        unfold listU
        rw [List.getD_eq_getElem?_getD, List.getElem?_map, List.getElem?_range (by omega)]
        rfl
      rw [hX] at c1 c2
      have ead : ∀ q, (⟨b, o, none⟩ : Addr).add q = ⟨b, o + q, none⟩ := fun q => by simp [Addr.add]
      rw [ead]
      by_cases hj2 : j = j / 2 * 2
      · rw [← hj2] at c1 h1
        rw [c1] at hj
        rw [h1, ← Option.some.inj hj]
      · have hj3 : j = j / 2 * 2 + 1 := by omega
        rw [← hj3] at c2
        rw [Nat.add_assoc, ← hj3] at h2
        rw [c2] at hj
        rw [h2, ← Option.some.inj hj]) (cellsP_one _) (by unfold maxLen; omega) (by omega) hbase
    rw [Nat.zero_add, List.nil_append] at ho
    have hoP : OwnP w' base v' (listU X n) := by
      unfold OwnP
      rw [hlen]; exact ho
    refine ⟨v', w', hr, hoP, (Below.refl _ _).grown hg (Nat.le_refl _) (fun k h => by cases h), fun k hk => ?_⟩
    have hbo : blkOf v' = v'.ownBlock := by
      obtain ⟨ao', cap', e, _⟩ := hoP.shape
      rw [e]; cases ao' <;> rfl
    rw [hbo] at hk
    refine ⟨?_, (World.ownsRow.lt ho k hk).2⟩
    rcases hat with hat | ⟨hat, _⟩
    · rw [hat] at hk; cases hk
    · rw [hat] at hk; exact Nat.le_of_eq (Option.some.inj hk)

def MadeAt (base : Nat) (T : TypeId) (z : Value) (n : Nat) (v : Value) (w : World) : Prop := ∃ g, v = .slice (some ⟨g, 0, none⟩) n n ∧ base ≤ g ∧ RowIs w g T (List.replicate n z)
theorem MadeAt.kept {base : Nat} {T : TypeId} {z : Value} {n : Nat} : Kept (MadeAt base T z n) := fun v w w' hb ⟨g, e, h1, h2⟩ => ⟨g, e, h1, RowIs.below h2 hb h2.lt⟩
/-- A book's parts. -/
structure BkParts (base n : Nat) (L : List NS) (v1 : Value) (gF gU gK : Nat) (w : World) : Prop where
  users : OwnP w base v1 L
  fails : RowIs w gF 3 (List.replicate n (.int .i64 0))
  till : RowIs w gU 3 (List.replicate n (.int .i64 0))
  locks : RowIs w gK 4 (List.replicate n (.bool false))
  late : base ≤ gF ∧ base ≤ gU ∧ base ≤ gK
  apart : gF ≠ gU ∧ gF ≠ gK ∧ gU ≠ gK
  off : ∀ k, v1.ownBlock = some k → k ≠ gF ∧ k ≠ gU ∧ k ≠ gK
theorem BkParts.below {base n : Nat} {L : List NS} {v1 : Value} {gF gU gK : Nat} {w w' : World} (h : BkParts base n L v1 gF gU gK w) (hb : Below w.heap.size w w') : BkParts base n L v1 gF gU gK w' :=
  ⟨own_belowU h.users hb, RowIs.below h.fails hb h.fails.lt, RowIs.below h.till hb h.till.lt, RowIs.below h.locks hb h.locks.lt, h.late, h.apart, h.off⟩
abbrev bkCells (v1 : Value) (gF gU gK n : Nat) : List Value := [v1, .slice (some ⟨gF, 0, none⟩) n n, .slice (some ⟨gU, 0, none⟩) n n, .slice (some ⟨gK, 0, none⟩) n n]
def BkAgg (base n : Nat) (L : List NS) (v : Value) (w : World) : Prop := ∃ v1 gF gU gK, v = .agg (bkCells v1 gF gU gK n).toArray ∧ BkParts base n L v1 gF gU gK w
theorem BkAgg.kept {base n : Nat} {L : List NS} : Kept (BkAgg base n L) := fun v w w' hb ⟨v1, gF, gU, gK, e, h⟩ => ⟨v1, gF, gU, gK, e, h.below hb⟩
def BkPtr (base n : Nat) (L : List NS) (v : Value) (w : World) : Prop := ∃ r v1 gF gU gK, v = .pointer (some ⟨r, 0, none⟩) ∧ BkParts base n L v1 gF gU gK w ∧ base ≤ r ∧ RowIs w r 55 (bkCells v1 gF gU gK n) ∧ (r ≠ gF ∧ r ≠ gU ∧ r ≠ gK) ∧ ∀ k, v1.ownBlock = some k → k ≠ r
theorem BkPtr.kept {base n : Nat} {L : List NS} : Kept (BkPtr base n L) := fun v w w' hb ⟨r, v1, gF, gU, gK, e, h, h1, h2, h3⟩ => ⟨r, v1, gF, gU, gK, e, h.below hb, h1, RowIs.below h2 hb h2.lt, h3⟩
def booksL : List (Option Tmp × Op) :=
  [(some 3, .move (.tmp 0)),
   (some 4, .call { callee := .builtin .append, args := #[.const (.slice none 0 0), .tmp 3], argTypes := #[22, 22] }),
   (some 5, .move (.tmp 0)),
   (some 6, .call { callee := .builtin .len, args := #[.tmp 5], argTypes := #[22] }),
   (some 7, .makeSlice 52 (.tmp 6) (.tmp 6)),
   (some 8, .move (.tmp 0)),
   (some 9, .call { callee := .builtin .len, args := #[.tmp 8], argTypes := #[22] }),
   (some 10, .makeSlice 52 (.tmp 9) (.tmp 9)),
   (some 11, .move (.tmp 0)),
   (some 12, .call { callee := .builtin .len, args := #[.tmp 11], argTypes := #[22] }),
   (some 13, .makeSlice 53 (.tmp 12) (.tmp 12)),
   (some 14, .build 55 #[(0, .tmp 4), (1, .tmp 7), (2, .tmp 10), (3, .tmp 13)]),
   (some 15, .box 55 (.tmp 14)),
   (some 2, .assign (.tmp 15))]
def booksW : List (List Nat) := [[], [0], [], [2], [3], [], [5], [6], [], [8], [9], [1, 4, 7, 10], [11], [0, 1, 2, 3, 4, 5, 6, 7, 8, 9, 10, 11, 12]]

set_option maxHeartbeats 1000000 in
theorem books_region {id : Nat} {ops : Array Oper} {Q : Exit → Act → World → Prop} {a0 : Act} {w : World} {ao : Option Addr} {n cap : Nat} {X : Nat → NS} (hok : regOk ops 16 = true) (hk : kinds ops = booksL) (hL : waitsL ops = booksW) (hsz : a0.tmps.size = 16)
    (h0 : a0.eval (.tmp 0) = .slice ao n cap) (hP : PairsAt w ao n X) (hno : ao = none → cap = 0 ∧ n = 0) (hn : n ≤ 1000)
    (hend : ∀ a w', Below w.heap.size w w' → a.tmps.size = 16 → a.defers = a0.defers → BkPtr w.heap.size n (listU X n) (a.eval (.tmp 2)) w' → Q .normal a w') :
    (Code.region id ops true).wp Tryz.prog Q a0 w := by
  obtain ⟨R, hRd⟩ : ∃ R : World → Prop, R = fun w5 => Below w.heap.size w w5 := ⟨_, rfl⟩
  obtain ⟨F, hF⟩ : ∃ F : List (Value → World → Prop), F = [fun v _ => v = .slice ao n cap,
    fun v w5 => OwnP w5 w.heap.size v (listU X n),
    fun v _ => v = .slice ao n cap, fun v _ => v = .int .i64 (n : Int), MadeAt w.heap.size 3 (.int .i64 0) n,
    fun v _ => v = .slice ao n cap, fun v _ => v = .int .i64 (n : Int), MadeAt w.heap.size 3 (.int .i64 0) n,
    fun v _ => v = .slice ao n cap, fun v _ => v = .int .i64 (n : Int), MadeAt w.heap.size 4 (.bool false) n,
    BkAgg w.heap.size n (listU X n), BkPtr w.heap.size n (listU X n), BkPtr w.heap.size n (listU X n)] := ⟨_, rfl⟩
  have stMv : ∀ i, (i = 0 ∨ i = 2 ∨ i = 5 ∨ i = 8) → StepN Tryz.prog Q booksL booksW F R [1, 4, 7, 10] a0 i := by
    subst hF hRd
    intro i hi o hd ho a w hR hout hJ hA
    rcases hi with rfl | rfl | rfl | rfl <;> exact st_v hd (run_moveU ho ((hout 0 (by decide)).trans h0) w) rfl
  have st3 : StepN Tryz.prog Q booksL booksW F R [1, 4, 7, 10] a0 3 := by
    subst hF hRd
    intro o hd ho a w hR hout hJ hA
    exact st_v hd (run_lenU ho (show a.eval (.tmp 5) = .slice ao n cap from hJ 2 (by decide)) rfl Tryz.underlying22 w) rfl
  have st6 : StepN Tryz.prog Q booksL booksW F R [1, 4, 7, 10] a0 6 := by
    subst hF hRd
    intro o hd ho a w hR hout hJ hA
    exact st_v hd (run_lenU ho (show a.eval (.tmp 8) = .slice ao n cap from hJ 5 (by decide)) rfl Tryz.underlying22 w) rfl
  have st9 : StepN Tryz.prog Q booksL booksW F R [1, 4, 7, 10] a0 9 := by
    subst hF hRd
    intro o hd ho a w hR hout hJ hA
    exact st_v hd (run_lenU ho (show a.eval (.tmp 11) = .slice ao n cap from hJ 8 (by decide)) rfl Tryz.underlying22 w) rfl
  have stM : ∀ i ∈ [1, 4, 7, 10], StepM Tryz.prog Q booksL booksW F R a0 i := by
    subst hF hRd
    intro i hi o hd ho a w5 hR hout hJ
    have hc : i = 1 ∨ i = 4 ∨ i = 7 ∨ i = 10 := by simpa using hi
    have hsz5 := hR.size
    rcases hc with rfl | rfl | rfl | rfl
    · have hx : a.eval (.tmp 3) = .slice ao n cap := hJ 0 (by decide)
      obtain ⟨v', w', hr, h1, h2, h3⟩ := run_append_pairs w5 w.heap.size o.type ao n cap X (hP.later hR) hno hn hsz5
      have ho' : o.op = .call { callee := .builtin .append, args := #[.const (.slice none 0 0), .tmp 3], argTypes := #[22, 22] } := ho
      have hc0 : a.eval (.const (.slice none 0 0)) = .slice none 0 0 := rfl
      have hd' : o.dst = some 4 := hd
      unfold Oper.wp execOp
      simp only [ho', resolve, invoke, builtin, Sem.run_bind, Sem.run_pure, Result.andThen_ok, List.map_toArray, List.map_cons, List.map_nil, hc0, hx, hr]
      exact ⟨v', rfl, h2, by rw [hd']; exact h1, by rw [hd']; exact h3⟩
    · have hx : a.eval (.tmp 6) = .int .i64 (n : Int) := hJ 3 (by decide)
      have hd' : o.dst = some 7 := hd
      unfold Oper.wp
      rw [run_makeU (P := Tryz.prog) ho hx hx (makeI14 n hn w5)]
      exact ⟨_, rfl, (Below.refl _ _).alloc (Nat.le_refl _) _, by rw [hd']; exact ⟨w5.heap.size, rfl, hsz5, RowIs.new w5 _ _⟩, by rw [hd']; exact fun k h => by obtain rfl := Option.some.inj h; exact ⟨Nat.le_refl _, by simp⟩⟩
    · have hx : a.eval (.tmp 9) = .int .i64 (n : Int) := hJ 6 (by decide)
      have hd' : o.dst = some 10 := hd
      unfold Oper.wp
      rw [run_makeU (P := Tryz.prog) ho hx hx (makeI14 n hn w5)]
      exact ⟨_, rfl, (Below.refl _ _).alloc (Nat.le_refl _) _, by rw [hd']; exact ⟨w5.heap.size, rfl, hsz5, RowIs.new w5 _ _⟩, by rw [hd']; exact fun k h => by obtain rfl := Option.some.inj h; exact ⟨Nat.le_refl _, by simp⟩⟩
    · have hx : a.eval (.tmp 12) = .int .i64 (n : Int) := hJ 9 (by decide)
      have hd' : o.dst = some 13 := hd
      unfold Oper.wp
      rw [run_makeU (P := Tryz.prog) ho hx hx (makeB14 n hn w5)]
      exact ⟨_, rfl, (Below.refl _ _).alloc (Nat.le_refl _) _, by rw [hd']; exact ⟨w5.heap.size, rfl, hsz5, RowIs.new w5 _ _⟩, by rw [hd']; exact fun k h => by obtain rfl := Option.some.inj h; exact ⟨Nat.le_refl _, by simp⟩⟩
  have st11 : StepN Tryz.prog Q booksL booksW F R [1, 4, 7, 10] a0 11 := by
    subst hF hRd
    intro o hd ho a w5 hR hout hJ hA
    have j1 : OwnP w5 w.heap.size (a.eval (.tmp 4)) (listU X n) := hJ 1 (by decide)
    obtain ⟨gF, eF, bF, rF⟩ : MadeAt w.heap.size 3 (.int .i64 0) n (a.eval (.tmp 7)) w5 := hJ 4 (by decide)
    obtain ⟨gU, eU, bU, rU⟩ : MadeAt w.heap.size 3 (.int .i64 0) n (a.eval (.tmp 10)) w5 := hJ 7 (by decide)
    obtain ⟨gK, eK, bK, rK⟩ : MadeAt w.heap.size 4 (.bool false) n (a.eval (.tmp 13)) w5 := hJ 10 (by decide)
    have aFU : gF ≠ gU := fun e => hA 4 (by decide) 7 (by decide) (by decide) (by decide) (by decide) gF (show blkOf (a.eval (.tmp 7)) = _ by rw [eF]; rfl) (show blkOf (a.eval (.tmp 10)) = _ by rw [eU, e]; rfl)
    have aFK : gF ≠ gK := fun e => hA 4 (by decide) 10 (by decide) (by decide) (by decide) (by decide) gF (show blkOf (a.eval (.tmp 7)) = _ by rw [eF]; rfl) (show blkOf (a.eval (.tmp 13)) = _ by rw [eK, e]; rfl)
    have aUK : gU ≠ gK := fun e => hA 7 (by decide) 10 (by decide) (by decide) (by decide) (by decide) gU (show blkOf (a.eval (.tmp 10)) = _ by rw [eU]; rfl) (show blkOf (a.eval (.tmp 13)) = _ by rw [eK, e]; rfl)
    have hbo : blkOf (a.eval (.tmp 4)) = (a.eval (.tmp 4)).ownBlock := by
      obtain ⟨ao', cap', e, _⟩ := j1.shape
      rw [e]; cases ao' <;> rfl
    have off : ∀ k, (a.eval (.tmp 4)).ownBlock = some k → k ≠ gF ∧ k ≠ gU ∧ k ≠ gK := fun k h => by
      rw [← hbo] at h
      refine ⟨fun e => ?_, fun e => ?_, fun e => ?_⟩ <;> subst e
      · exact hA 1 (by decide) 4 (by decide) (by decide) (by decide) (by decide) k h (show blkOf (a.eval (.tmp 7)) = _ by rw [eF]; rfl)
      · exact hA 1 (by decide) 7 (by decide) (by decide) (by decide) (by decide) k h (show blkOf (a.eval (.tmp 10)) = _ by rw [eU]; rfl)
      · exact hA 1 (by decide) 10 (by decide) (by decide) (by decide) (by decide) k h (show blkOf (a.eval (.tmp 13)) = _ by rw [eK]; rfl)
    obtain ⟨ao', cap', e1, _⟩ := j1.shape
    refine st_v hd (run_buildU ho w5 (cells := (bkCells (a.eval (.tmp 4)) gF gU gK n).toArray) ?_) ⟨a.eval (.tmp 4), gF, gU, gK, rfl, j1, rF, rU, rK, ⟨bF, bU, bK⟩, ⟨aFU, aFK, aUK⟩, off⟩
    simp only [List.map_toArray, List.map_cons, List.map_nil]
    rw [eF, eU, eK, e1]
    exact builtBk ..
  have st12 : StepN Tryz.prog Q booksL booksW F R [1, 4, 7, 10] a0 12 := by
    subst hF hRd
    intro o hd ho a w5 hR hout hJ hA
    obtain ⟨v1, gF, gU, gK, e, hp⟩ : BkAgg w.heap.size n (listU X n) (a.eval (.tmp 14)) w5 := hJ 11 (by decide)
    have hb : Below w5.heap.size w5 (w5.alloc (.cells (bkCells v1 gF gU gK n).toArray 55)) := (Below.refl _ _).alloc (Nat.le_refl _) _
    refine st_m hd (run_boxU ho e w5) hb ⟨w5.heap.size, v1, gF, gU, gK, rfl, hp.below hb, hR.size, RowIs.new w5 _ _, ⟨?_, ?_, ?_⟩, fun k h => ?_⟩
    · have := hp.fails.lt; omega
    · have := hp.till.lt; omega
    · have := hp.locks.lt; omega
    · have := (World.ownsRow.lt hp.users k h).2; omega
  have st13 : StepN Tryz.prog Q booksL booksW F R [1, 4, 7, 10] a0 13 := by
    subst hF hRd
    intro o hd ho a w5 hR hout hJ hA
    exact st_v hd (run_assign' ho rfl w5) (show BkPtr w.heap.size n (listU X n) (a.eval (.tmp 15)) w5 from hJ 12 (by decide))
  refine wp_region_D booksL booksW F R [1, 4, 7, 10] (by kernel_rfl) hok hk hL (n := 14) rfl hsz ?_ ?_ ?_ (by decide) ?_ stM ?_
  · subst hRd; exact (Below.refl _ _).drew
  · subst hRd; intro u u2 hu hb; exact hu.trans (hb.mono hu.size)
  · subst hF; exact ⟨fun _ _ _ _ h => h, fun _ _ _ hb h => own_belowU h hb, fun _ _ _ _ h => h, fun _ _ _ _ h => h, MadeAt.kept, fun _ _ _ _ h => h, fun _ _ _ _ h => h, MadeAt.kept, fun _ _ _ _ h => h, fun _ _ _ _ h => h, MadeAt.kept, BkAgg.kept, BkPtr.kept, BkPtr.kept, True.intro⟩
  · intro i hi hm
    match i, hi, hm with
    | 0, _, _ => exact stMv 0 (by decide)
    | 1, _, h => exact absurd (by decide) h
    | 2, _, _ => exact stMv 2 (by decide)
    | 3, _, _ => exact st3
    | 4, _, h => exact absurd (by decide) h
    | 5, _, _ => exact stMv 5 (by decide)
    | 6, _, _ => exact st6
    | 7, _, h => exact absurd (by decide) h
    | 8, _, _ => exact stMv 8 (by decide)
    | 9, _, _ => exact st9
    | 10, _, h => exact absurd (by decide) h
    | 11, _, _ => exact st11
    | 12, _, _ => exact st12
    | 13, _, _ => exact st13
  · intro a w5 hR hs hd hout hall hA
    subst hF hRd
    exact hend a w5 hR hs hd (hall 13 (by decide))

set_option maxHeartbeats 1000000 in
theorem refU_books (w : World) (ao : Option Addr) (n cap : Nat) (X : Nat → NS) (hP : PairsAt w ao n X) (hno : ao = none → cap = 0 ∧ n = 0) (hn : n ≤ 1000) :
    Calls Tryz.prog 10 #[.slice ao n cap] w fun e w' => Below w.heap.size w w' ∧ ∃ v, e = .returned v ∧ BkPtr w.heap.size n (listU X n) v w' := by
  have H : Hid _ := hP
  go_enter Tryz.func10, Tryz.ntmps10
  go_wp2_with fail
  refine books_region (by kernel_rfl) (by kernel_rfl) (by kernel_rfl) rfl rfl H.out hno hn ?_
  intro a w5 b5 hs hd h2
  rename_i K hK
  refine hK _ _ ?_
  replace hd : a.defers = [] := hd
  go_wp2
  show bodyPost Tryz.prog Tryz.f10 _ Exit.ret a w5
  refine bodyPost_ret (results_ofU (fn := Tryz.f10) rfl Tryz.prog w5) hd ?_
  exact ⟨b5, _, rfl, h2⟩

end Go.Proofs.YtjemklgfenciaaaGreat

/-
  The reference's book of users, among things side by side.
-/
namespace Go.Proofs.YtjemklgfenciaaaGreat
open Go.RowKit
set_option linter.unusedVariables false
set_option maxRecDepth 100000
set_option linter.unusedSimpArgs false

def RefBkTh (r : Nat) (vL : Value) (gF gU gK : Nat) (B : List Usr) : Thing where
  At w bl := RefBk w r vL gF gU gK B ∧ ∀ k, bl k ↔ (k = r ∨ vL.ownBlock = some k ∨ k = gF ∨ k = gU ∨ k = gK)
  lt h k hk := by
    rcases (h.2 k).1 hk with rfl | hk | rfl | rfl | rfl
    · exact h.1.row.lt
    · exact (World.ownsRow.lt h.1.users k hk).2
    · exact h.1.fails.lt
    · exact h.1.till.lt
    · exact h.1.locks.lt
  keep h ht hn := ⟨h.1.keep ht (fun k hk => hn k ((h.2 k).2 hk)), h.2⟩
theorem freshU_len (L : List NS) : (freshU L).length = L.length := by unfold freshU; simp
theorem freshU_pairs (L : List NS) : pairsB (freshU L) = L := by
  unfold pairsB freshU
  rw [List.map_map]
  exact List.map_id' L
theorem freshU_fails (L : List NS) : failRow (freshU L) = List.replicate L.length (.int .i64 0) := by
  unfold failRow freshU
  rw [List.map_map, ← List.map_const]
  rfl
theorem freshU_till (L : List NS) : tillRow (freshU L) = List.replicate L.length (.int .i64 0) := by
  unfold tillRow freshU
  rw [List.map_map, ← List.map_const]
  rfl
theorem freshU_locks (L : List NS) : lockRow (freshU L) = List.replicate L.length (.bool false) := by
  unfold lockRow freshU
  rw [List.map_map, ← List.map_const]
  rfl
theorem BkPtr.book {base n : Nat} {L : List NS} {v : Value} {w : World} (h : BkPtr base n L v w) (hl : L.length = n) : ∃ r vL gF gU gK, v = .pointer (some ⟨r, 0, none⟩) ∧ RefBk w r vL gF gU gK (freshU L) ∧ ∀ k, (k = r ∨ vL.ownBlock = some k ∨ k = gF ∨ k = gU ∨ k = gK) → base ≤ k := by
  obtain ⟨r, v1, gF, gU, gK, e, hp, hr, hrow, ⟨a1, a2, a3⟩, ho⟩ := h
  subst hl
  refine ⟨r, v1, gF, gU, gK, e, ⟨?_, ?_, ?_, ?_, ?_, ⟨a1, a2, a3, hp.apart⟩, fun k hk => ⟨ho k hk, hp.off k hk⟩⟩, fun k hk => ?_⟩
  · rw [freshU_len]; exact hrow
  · rw [freshU_pairs]; exact own_base0 hp.users
  · rw [freshU_fails]; exact hp.fails
  · rw [freshU_till]; exact hp.till
  · rw [freshU_locks]; exact hp.locks
  · rcases hk with rfl | hk | rfl | rfl | rfl
    · exact hr
    · exact (World.ownsRow.lt hp.users k hk).1
    · exact hp.late.1
    · exact hp.late.2.1
    · exact hp.late.2.2

section
variable {w0 w : World} {l : List Thing}
theorem Here.refBooks (h : Here w0 l w) (ao : Option Addr) (n cap : Nat) (X : Nat → NS) (hP : PairsAt w ao n X) (hno : ao = none → cap = 0 ∧ n = 0) (hn : n ≤ 1000) :
    Calls Tryz.prog 10 #[.slice ao n cap] w fun e w' => ∃ r vL gF gU gK, e = .returned (.pointer (some ⟨r, 0, none⟩)) ∧ Here w0 (RefBkTh r vL gF gU gK (freshU (listU X n)) :: l) w' := by
  refine (refU_books w ao n cap X hP hno hn).mono ?_
  rintro e w' ⟨hb, v, rfl, hB⟩
  obtain ⟨r, vL, gF, gU, gK, rfl, hR, hk⟩ := hB.book (by unfold listU; simp)
  exact ⟨r, vL, gF, gU, gK, rfl, h.new (bn := fun k => k = r ∨ vL.ownBlock = some k ∨ k = gF ∨ k = gU ∨ k = gK) ⟨hR, fun k => Iff.rfl⟩ hk hb⟩
theorem Here.refBk (h : Here w0 l w) (i : Nat) {r gF gU gK : Nat} {vL : Value} {B : List Usr} (hi : l[i]? = some (RefBkTh r vL gF gU gK B)) : RefBk w r vL gF gU gK B := by
  obtain ⟨bl, hP, _, _⟩ := h.focus i hi
  exact hP.1
theorem Here.refAt (h : Here w0 l w) (i : Nat) {r gF gU gK : Nat} {vL : Value} {B : List Usr} (n : ByteArray) (hi : l[i]? = some (RefBkTh r vL gF gU gK B)) (hl : B.length ≤ 1000) :
    Calls Tryz.prog 14 #[.pointer (some ⟨r, 0, none⟩), .string n] w fun e w' => e = .returned (.int .i64 (atV B n)) ∧ w = w' :=
  refU_at w r gF gU gK vL B n (h.refBk i hi) hl
theorem Here.refLocked (h : Here w0 l w) (i : Nat) {r gF gU gK : Nat} {vL : Value} {B : List Usr} (n : ByteArray) (now : Int) (hi : l[i]? = some (RefBkTh r vL gF gU gK B)) (hl : B.length ≤ 1000) :
    Calls Tryz.prog 20 #[.pointer (some ⟨r, 0, none⟩), .string n, .int .i64 now] w fun e w' => e = .returned (.bool (lockedT B n now)) ∧ w = w' :=
  refU_locked w r gF gU gK vL B n now (h.refBk i hi) hl
theorem turn_ref {w w' : World} {bl : Nat → Prop} {r gF gU gK : Nat} {vL : Value} {B B' : List Usr} (hP : (RefBkTh r vL gF gU gK B).At w bl) (hR : RefBk w' r vL gF gU gK B') (ht : Touch (fun k => k = gF ∨ k = gU ∨ k = gK) w w') : Turns w bl (RefBkTh r vL gF gU gK B') w' :=
  ⟨bl, ⟨hR, hP.2⟩, fun k hk => Or.inl hk, ht.mono (fun k _ hk => (hP.2 k).2 (Or.inr (Or.inr hk)))⟩
theorem Here.refFail (h : Here w0 l w) (i : Nat) {r gF gU gK : Nat} {vL : Value} {B : List Usr} (n : ByteArray) (now : Int) (hi : l[i]? = some (RefBkTh r vL gF gU gK B)) (hok : UsersOk B) (hw : I64U now) :
    Calls Tryz.prog 16 #[.pointer (some ⟨r, 0, none⟩), .string n, .int .i64 now] w fun e w' => e = .returned (.bool (failT B n)) ∧ Here w0 (l.set i (RefBkTh r vL gF gU gK (failB B n now))) w' := by
  obtain ⟨bl, hP, _, hstep⟩ := h.focus i hi
  refine (refU_fail w r gF gU gK vL B n now hP.1 hok hw).mono ?_
  rintro e w' ⟨rfl, hR, ht⟩
  exact ⟨rfl, hstep _ _ (turn_ref hP hR ht)⟩
theorem Here.refGood (h : Here w0 l w) (i : Nat) {r gF gU gK : Nat} {vL : Value} {B : List Usr} (n : ByteArray) (hi : l[i]? = some (RefBkTh r vL gF gU gK B)) (hl : B.length ≤ 1000) :
    Calls Tryz.prog 18 #[.pointer (some ⟨r, 0, none⟩), .string n] w fun e w' => e = .returned (.tuple #[]) ∧ Here w0 (l.set i (RefBkTh r vL gF gU gK (goodB B n))) w' := by
  obtain ⟨bl, hP, _, hstep⟩ := h.focus i hi
  refine (refU_good w r gF gU gK vL B n hP.1 hl).mono ?_
  rintro e w' ⟨rfl, hR, ht⟩
  exact ⟨rfl, hstep _ _ (turn_ref hP hR ht)⟩
end

end Go.Proofs.YtjemklgfenciaaaGreat

/-
  What the law on every play reads: in the reference's book, in a list of names.
-/
namespace Go.Proofs.YtjemklgfenciaaaGreat
open Go.RowKit
set_option linter.unusedVariables false
set_option maxRecDepth 100000
set_option linter.unusedSimpArgs false

theorem pairsB_at {B : List Usr} {n : ByteArray} (h : hasU B n = true) : (pairsB B).getD (idxU B n) nsNone = ((atU B n).name, (atU B n).secret) := by
  unfold pairsB
  rw [List.getD_eq_getElem?_getD, List.getElem?_map, atU_get h]
  rfl
/-- A user's secret, in the reference's list. -/
theorem RefBk.secretAt {w : World} {r gF gU gK : Nat} {vL : Value} {B : List Usr} (h : RefBk w r vL gF gU gK B) {n : ByteArray} (hh : hasU B n = true) :
    ∃ b o cap, vL = .slice (some ⟨b, o, none⟩) B.length cap ∧ w.cell? ⟨b, o + idxU B n * 2 + 1, none⟩ = some (.string (atU B n).secret) ∧ idxU B n < B.length := by
  obtain ⟨ao, cap, hv, hp⟩ := h.shape
  have hlt := idxU_lt hh
  obtain ⟨b, o, rfl, _, h2⟩ := hp _ hlt
  simp only [pairsB_at hh] at h2
  exact ⟨b, o, cap, hv, h2, hlt⟩
theorem RefBk.failsAt {w : World} {r gF gU gK : Nat} {vL : Value} {B : List Usr} (h : RefBk w r vL gF gU gK B) {n : ByteArray} (hh : hasU B n = true) :
    w.cell? ⟨gF, idxU B n, none⟩ = some (.int .i64 ((failsN B n : Nat) : Int)) ∧ idxU B n < B.length := by
  refine ⟨?_, idxU_lt hh⟩
  unfold failsN
  rw [hh]
  exact h.fails.cellAt (failRow_at hh)
theorem RefBk.listCell {w : World} {r gF gU gK : Nat} {vL : Value} {B : List Usr} (h : RefBk w r vL gF gU gK B) :
    w.cell? ⟨r, 0, none⟩ = some vL ∧ w.cell? ⟨r, 1, none⟩ = some (.slice (some ⟨gF, 0, none⟩) B.length B.length) := ⟨h.row.cellAt (j := 0) rfl, h.row.cellAt (j := 1) rfl⟩
theorem failsN_no {B : List Usr} {n : ByteArray} (h : hasU B n = false) : failsN B n = 0 := by unfold failsN; rw [h]; rfl
theorem NamesOf.has {B : List Usr} {L : List ByteArray} (h : NamesOf B L) {i : Nat} (hi : i < L.length) : hasU B (L.getD i ⟨#[]⟩) = true := by
  refine h.each _ ?_
  rw [List.getD_eq_getElem?_getD, List.getElem?_eq_getElem hi]
  exact List.getElem_mem hi
theorem NamesOf.rise {B : List Usr} {L : List ByteArray} (h : NamesOf B L) {i : Nat} (h0 : 0 < i) (hi : i < L.length) : Go.Op.bytesLess (L.getD (i - 1) ⟨#[]⟩).toList (L.getD i ⟨#[]⟩).toList = true := by
  have := h.rising (i - 1) (by omega)
  rwa [show i - 1 + 1 = i by omega] at this
/-- What the law does to both, of one kind. -/
def playB (B : List Usr) (k now : Int) (n : ByteArray) : List Usr := if k = 1 then failB B n now else if k = 2 then goodB B n else B
theorem UsersOk.play {B : List Usr} (h : UsersOk B) (k now : Int) (n : ByteArray) : UsersOk (playB B k now n) := by
  unfold playB
  split
  · exact h.fail n now
  · split
    · exact h.good n
    · exact h
theorem freshU_ok {X : Nat → NS} {n : Nat} (h : usersOk (listU X n) = true) : UsersOk (freshU (listU X n)) := usersOk_fresh h
theorem freshU_len14 (X : Nat → NS) (n : Nat) : (freshU (listU X n)).length = n := by rw [freshU_len]; unfold listU; simp

end Go.Proofs.YtjemklgfenciaaaGreat
