/-
  Parts of this proof, one behind the other: BokT1, Com3, Reg2.
-/
import Derived.Test.YtjemklgfenciaaaGreatBun7
import Derived.Test.YtjemklgfenciaaaGreatBun10
import Derived.Test.YtjemklgfenciaaaGreatBun8
import Derived.Test.YtjemklgfenciaaaGreatBun16
import Derived.Test.YtjemklgfenciaaaGreatBun4
import Derived.Test.YtjemklgfenciaaaGreatBun14

/-
  The book's lists of texts: SameTexts, name, markTexts.
-/
namespace Go.Proofs.YtjemklgfenciaaaGreat
open Go.RowKit
set_option linter.unusedVariables false
set_option maxRecDepth 100000
set_option linter.unusedSimpArgs false

theorem seenT_at {w : World} {v : Value} {l : List ByteArray} (h : Seen w v (cellsT l)) (hl : 0 < l.length) : ∃ g cap, v = .slice (some ⟨g, 0, none⟩) l.length cap ∧ ∀ j, j < l.length → w.cell? ⟨g, j, none⟩ = some (.string (l.getD j ⟨#[]⟩)) := by
  obtain ⟨g, cap, rfl, hc⟩ := h.full (by rw [cellsT_len]; exact hl)
  exact ⟨g, cap, by rw [cellsT_len], fun j hj => hc j _ (cellsT_at l j hj)⟩

set_option maxHeartbeats 1000000 in
/-- Two lists that hold the same are alike. -/
theorem book_sameTexts (l : List ByteArray) (va vb : Value) (w : World) (ha : Seen w va (cellsT l)) (hb : Seen w vb (cellsT l)) (hl : l.length ≤ 4611686018427387904) :
    Calls Tryz.prog 74 #[va, vb] w fun e w' => e = .returned (.bool true) ∧ Below w.heap.size w w' := by
  by_cases h0 : 0 < l.length
  · obtain ⟨g, cap, rfl, hg⟩ := seenT_at ha h0
    obtain ⟨g', cap', rfl, hg'⟩ := seenT_at hb h0
    have G : Hid _ := hg
    have G' : Hid _ := hg'
    clear hg hg' ha hb
    generalize hn : l.length = n at *
    go_enter Tryz.func74, Tryz.ntmps74
    go_wp2_with fail
    go_loopw [5] (fun i wr => ∃ k : Nat, k ≤ n ∧ i = .int .i64 k ∧ Below w.heap.size w wr) (fun i _ => n - (intOf i).toNat)
    case atStart => exact ⟨0, Nat.zero_le _, rfl, Below.refl _ _⟩
    case round =>
      obtain ⟨k, hk, rfl, hbel⟩ := hrel
      by_cases hlt : k < n
      · have c1 := G.out k hlt
        have c2 := G'.out k hlt
        have b1 : g < w.heap.size := World.block_lt_of_cell? w ⟨g, k, none⟩ c1
        have b2 : g' < w.heap.size := World.block_lt_of_cell? w ⟨g', k, none⟩ c2
        replace c1 := (hbel.cell (p := ⟨g, k, none⟩) b1).trans c1
        replace c2 := (hbel.cell (p := ⟨g', k, none⟩) b2).trans c2
        have d1 : decide ((k : Int) < (n : Int)) = true := by simp; omega
        have d2 : (k : Int) < (n : Int) := by omega
        generalize l.getD k ⟨#[]⟩ = X at *
        have hself := str_beq_self X
        go_wp2_with fail
        go_region
        go_wp2
        go_roundw
        case rel => exact ⟨k + 1, by omega, by go_num, hbel.drew⟩
        case measure => simp [intOf]; omega
      · have d1 : decide ((k : Int) < (n : Int)) = false := by simp; omega
        go_wp2
        go_ret
        exact ⟨rfl, hbel⟩
  · have hn : l = [] := List.eq_nil_of_length_eq_zero (by omega)
    subst hn
    obtain ⟨ao, cap, rfl⟩ := ha.form
    obtain ⟨ao', cap', rfl⟩ := hb.form
    rw [show (cellsT []).length = 0 from rfl]
    clear ha hb
    go_enter Tryz.func74, Tryz.ntmps74
    go_wp2_with fail
    go_loopw [5] (fun i wr => i = .int .i64 0 ∧ wr = w) (fun i _ => 0)
    case atStart => exact ⟨rfl, rfl⟩
    case round =>
      obtain ⟨rfl, rfl⟩ := hrel
      go_wp2
      go_ret
      exact ⟨rfl, Below.refl _ _⟩

/-- The name of a mark. -/
def nameL (i k : Nat) : List UInt8 := [109, UInt8.ofNat (65 + i % 26), UInt8.ofNat (65 + i / 26 % 26), UInt8.ofNat (48 + k % 10), UInt8.ofNat (48 + k / 10 % 10), UInt8.ofNat (48 + k / 100 % 10)]
def nameS (i k : Nat) : ByteArray := str (nameL i k)
theorem byte_of (a m : Nat) (h : a + m ≤ 256) (x : Nat) (hm : 0 < m) : ((UInt8.ofNat (a + x % m)).toNat : Int) = (a : Int) + (x : Int) % (m : Int) := by
  have := Nat.mod_lt x hm
  rw [UInt8.toNat_ofNat']
  omega
set_option maxHeartbeats 400000 in
theorem book_name (i k : Nat) (w : World) (hi : i ≤ 100000) (hk : k ≤ 2000000000) :
    Calls Tryz.prog 94 #[.int .i64 i, .int .i64 k] w fun e w' => e = .returned (.string (nameS i k)) ∧ Below w.heap.size w w' := by
  have r0 : RowIs (w.alloc (.cells (cells8 (nameL i k)).toArray 5)) w.heap.size 5 (cells8 (nameL i k)) := RowIs.new w _ _
  have hc := run_convert_bytes_back (P := Tryz.prog) (w.alloc (.cells (cells8 (nameL i k)).toArray 5)) 141 9 5 ⟨w.heap.size, 0, none⟩ 6 (nameL i k) Tryz.underlying141 Tryz.underlying5 Tryz.underlying9 (by
    intro j hj
    rw [show (⟨w.heap.size, 0, none⟩ : Addr).add j = ⟨w.heap.size, j, none⟩ from by simp [Addr.add]; exact fun h => h.symm]
    exact r0.cellAt (cells8_at _ j hj))
  have x1 : (((UInt8.ofNat (65 + i % 26)).toNat : Nat) : Int) = 65 + (i : Int) % 26 := byte_of 65 26 (by omega) i (by omega)
  have x2 : (((UInt8.ofNat (65 + i / 26 % 26)).toNat : Nat) : Int) = 65 + (i : Int) / 26 % 26 := byte_of 65 26 (by omega) (i / 26) (by omega)
  have x3 : (((UInt8.ofNat (48 + k % 10)).toNat : Nat) : Int) = 48 + (k : Int) % 10 := byte_of 48 10 (by omega) k (by omega)
  have x4 : (((UInt8.ofNat (48 + k / 10 % 10)).toNat : Nat) : Int) = 48 + (k : Int) / 10 % 10 := byte_of 48 10 (by omega) (k / 10) (by omega)
  have x5 : (((UInt8.ofNat (48 + k / 100 % 10)).toNat : Nat) : Int) = 48 + (k : Int) / 100 % 10 := byte_of 48 10 (by omega) (k / 100) (by omega)
  have hcs : (cells8 (nameL i k)).toArray = #[.int .u8 109, .int .u8 (65 + (i : Int) % 26), .int .u8 (65 + (i : Int) / 26 % 26), .int .u8 (48 + (k : Int) % 10), .int .u8 (48 + (k : Int) / 10 % 10), .int .u8 (48 + (k : Int) / 100 % 10)] := by
    simp only [nameL, cells8, List.map_cons, List.map_nil, cell8, x1, x2, x3, x4, x5]
    rfl
  rw [hcs] at hc
  rw [show (nameL i k).length = 6 from rfl] at hc
  clear x1 x2 x3 x4 x5 hcs r0
  go_enter Tryz.func94, Tryz.ntmps94
  go_wp2
  go_ret
  exact ⟨rfl, (Below.refl _ _).alloc (Nat.le_refl _) _⟩

/-- The marks of list i: as many as n, the first one's place is a. -/
def marksT (i a n : Nat) : List ByteArray := (List.range n).map (fun k => nameS i (a + k))
theorem marksT_len (i a n : Nat) : (marksT i a n).length = n := by simp [marksT]
theorem marksT_succ (i a n : Nat) : marksT i a (n + 1) = marksT i a n ++ [nameS i (a + n)] := by
  simp [marksT, List.range_succ]
theorem marksT_app (i a n m : Nat) : marksT i a n ++ marksT i (a + n) m = marksT i a (n + m) := by
  induction m with
  | zero => simp [marksT]
  | succ m ih => rw [marksT_succ, ← List.append_assoc, ih, ← Nat.add_assoc n m 1, marksT_succ, Nat.add_assoc a n m]

set_option maxRecDepth 100000 in
set_option maxHeartbeats 1000000 in
theorem book_markTexts (i a n : Nat) (w : World) (hi : i ≤ 100000) (ha : a ≤ 1000000000) (hn : n ≤ 1000000000) :
    Calls Tryz.prog 82 #[.int .i64 i, .int .i64 a, .int .i64 n] w fun e w' => (∃ v, OwnT w' w.heap.size v (marksT i a n) ∧ e = .returned v) ∧ Below w.heap.size w w' := by
  obtain ⟨i0, hi0, hz0, hz1, hz2⟩ := info_parts infoT
  have hnil : OwnT w w.heap.size (.slice none 0 0) (marksT i a 0) := World.ownsRow_nil w _ _ _
  go_enter Tryz.func82, Tryz.ntmps82
  go_wp2_with fail
  go_loopw [7, 8] (fun v k wr => ∃ m : Nat, m ≤ n ∧ k = .int .i64 ((a + m : Nat) : Int) ∧ OwnT wr w.heap.size v (marksT i a m) ∧ Below w.heap.size w wr) (fun _ k _ => a + n - (intOf k).toNat)
  case atStart => exact ⟨0, Nat.zero_le _, by simp, hnil, Below.refl _ _⟩
  case round =>
    clear hnil
    obtain ⟨m, hm, rfl, hown, hbel⟩ := hrel
    by_cases hlt : m < n
    · have HS : Hid (marksT i a (m + 1) = marksT i a m ++ [nameS i (a + m)]) := marksT_succ i a m
      have d1 : decide (((a + m : Nat) : Int) < (a : Int) + (n : Int)) = true := by simp; omega
      obtain ⟨km, hkm⟩ : ∃ km, km = a + m := ⟨_, rfl⟩
      rw [← hkm] at HS d1 ⊢
      have HK : Hid (km = a + m) := hkm
      have hk2 : km ≤ 2000000000 := by omega
      clear hkm
      have PN : Hid _ := fun w => book_name i km w hi hk2
      generalize nameS i km = X at *
      have HO : Hid _ := hown
      clear hown
      obtain ⟨ao, co, rfl⟩ : ∃ a c, u7 = .slice a m c := by
        have := OwnT.shape HO.out
        rw [marksT_len] at this
        exact this
      go_wp2_with fail
      with_reducible refine (PN.out _).mono ?_
      rintro e w1 ⟨rfl, b1⟩
      have hown' : w1.ownsRow w.heap.size 9 1 (.slice ao m co) m (cellsT (marksT i a m)) := by have := OwnT.below HO.out b1; unfold OwnT at this; rwa [marksT_len] at this
      replace hbel := bel_chain8 hbel b1
      clear b1
      go_wp2_with (first | (at_builtin; refine wpList_append_lies _ rfl (.tmp 17) (.tmp 21) 47 rfl w.heap.size 9 i0 (.string ⟨#[]⟩) 1 16 Tryz.underlying47 hi0 hz0 hz1 hz2 rfl (by decide) (.slice ao m co) m (cellsT (marksT i a m)) rfl (hown'.alloc _) ⟨w1.heap.size, 0, none⟩ 1 1 (cellsT [X]) rfl rfl (World.news_of_block (heap_alloc_new w1 _)) (cellsT_one _) (by decide) (by unfold maxLen; omega) (by omega) (by have := hbel.size; simp; omega) _ rfl ?_))
      intro g2 cap2 w2 hown2 hgrow2 hat hlt2
      go_wp2
      go_roundw
      case rel =>
        refine ⟨m + 1, by omega, by rw [HK.out]; go_num, ?_, ?_⟩
        · unfold OwnT
          rw [HS.out, cellsT_append, List.length_append, marksT_len]
          exact hown2
        · have hz := hbel.size
          exact (hbel.alloc (by omega) _).grown hgrow2 (by simp; omega) (fun j hj => (hown'.lt j hj).1)
      case measure => simp only [intOf]; have := HK.out; omega
    · have d1 : decide (((a + m : Nat) : Int) < (a : Int) + (n : Int)) = false := by simp; omega
      obtain rfl : m = n := by omega
      go_wp2
      go_ret
      exact ⟨⟨_, hown, rfl⟩, hbel⟩

end Go.Proofs.YtjemklgfenciaaaGreat

/-
  The contracts of package command's tests (isOp, isKey, areNumbers, Right), of Class, and of the reference's.
-/
namespace Go.Proofs.YtjemklgfenciaaaGreat
open Go.RowKit
set_option linter.unusedVariables false
set_option maxRecDepth 100000
set_option linter.unusedSimpArgs false

theorem str_at10 (s : ByteArray) (n : Nat) (h : n < s.size) : s[n] = s.data.toList.getD n 0 := by
  rw [List.getD_eq_getElem?_getD, List.getElem?_eq_getElem (by simpa using h)]
  rfl
theorem u8_byte (v : Int) : IntKind.u8.wrap v = ((byteOf v 0).toNat : Int) := by
  rw [byteOf_val, IntKind.wrap_u8]
  simp
abbrev IsOp (op : Int) : Prop := 1 ≤ op ∧ op ≤ 13
abbrev NumsOk (num ver : Int) : Prop := (-1000000000000 ≤ num ∧ num ≤ 1000000000000) ∧ (0 ≤ ver ∧ ver ≤ 1000000000000)
theorem ret_bool {a b : Bool} (h : a = b) : Ending.returned (.bool a) = .returned (.bool b) := by rw [h]

theorem keyOk_none {op : Int} {n : Nat} (h : op = 12 ∨ op = 13) : (keyOk op n ∧ n ≤ 60) ↔ n = 0 := by
  unfold keyOk
  rw [if_neg (by omega), if_pos h]
  omega
theorem keyOk_scan {n : Nat} : (keyOk 11 n ∧ n ≤ 60) ↔ (n : Int) ≤ 60 := by
  unfold keyOk
  rw [if_pos rfl]
  simp
  omega
theorem keyOk_other {op : Int} {n : Nat} (h1 : ¬ op = 11) (h : ¬ (op = 12 ∨ op = 13)) : (keyOk op n ∧ n ≤ 60) ↔ (1 ≤ n ∧ n ≤ 60) := by
  unfold keyOk
  rw [if_neg h1, if_neg h]
theorem empty_list : (⟨#[]⟩ : ByteArray).toList.isEmpty = true := by rw [ByteArray.toList_eq]; rfl
theorem str_empty_dec (k : ByteArray) : decide (k = ByteArray.empty) = decide (k.size = 0) := decide_eq_decide.2 ⟨fun h => by rw [h]; rfl, fun h => str_none k h⟩
theorem classN_in (op : Int) (h : IsOp op) : op = 1 ∨ op = 2 ∨ op = 3 ∨ op = 4 ∨ op = 5 ∨ op = 6 ∨ op = 7 ∨ op = 8 ∨ op = 9 ∨ op = 10 ∨ op = 11 ∨ op = 12 ∨ op = 13 := by unfold IsOp at h; omega
theorem classN_out (op : Int) (h : ¬ IsOp op) : classN op = 0 := by
  unfold classN
  unfold IsOp at h
  rw [if_neg (by omega), if_neg (by omega), if_neg (by omega)]
theorem classN_pos (op : Int) : decide (0 < classN op) = decide (IsOp op) := by
  refine decide_eq_decide.2 ?_
  unfold classN IsOp
  split
  · omega
  · split
    · omega
    · split <;> omega

end Go.Proofs.YtjemklgfenciaaaGreat

/-
  More operations of a region that draws its order.
-/
namespace Go.Proofs.YtjemklgfenciaaaGreat
open Go.RowKit
set_option linter.unusedVariables false
set_option maxRecDepth 100000
set_option linter.unusedSimpArgs false

section
variable {P : Program}
theorem run_convI' {a : Act} {o : Oper} {x : Operand} {s t : TypeId} {k k' : IntKind} {n m : Int} (ho : o.op = .convert s t x) (hx : a.eval x = .int k n) (hs : (P.underlying s).isSome = true) (hd : P.underlying t = some (.int k')) (hm : k'.wrap n = m) (w : World) :
    (execOp a.eval o).run P w = .ok (.value (.int k' m)) w := by
  have hk : P.intKind t = k' := by simp [Program.intKind, hd]
  have := run_convert_int (P := P) w s t k n hs (by rw [hk]; exact hd)
  rw [hk, hm] at this
  exact run_convert' ho hx this
theorem run_load1' {a : Act} {o : Oper} {x : Operand} {t : TypeId} {p : Addr} {v : Value} {d : TypeDesc} (ho : o.op = .load t x) (hx : a.eval x = .pointer (some p)) (hu : P.underlying t = some d) (hd : d.isRow = false) (w : World) (hc : w.cell? p = some v) :
    (execOp a.eval o).run P w = .ok (.value v) w := by
  have hrun : (Instr.loadAt t (.pointer (some p))).run P w = .ok v w := by
    have hagg : (isAgg t).run P w = .ok false w := by
      unfold isAgg
      rw [Sem.run_bind, run_underlying hu w]
      cases d <;> first | rfl | (simp [TypeDesc.isRow] at hd)
    simp [go_sem, hagg, hc]
  unfold execOp
  simp only [ho, hx, Sem.run_bind, hrun]
  rfl
theorem run_lenL' {a : Act} {o : Oper} {x : Operand} {t e : TypeId} {ts : Array TypeId} {p : Option Addr} {n c : Nat} (ho : o.op = .call { callee := .builtin .len, args := #[x], argTypes := ts }) (hx : a.eval x = .slice p n c) (ht : ts[0]? = some t) (hu : P.underlying t = some (.slice e)) (w : World) :
    (execOp a.eval o).run P w = .ok (.value (.int .i64 (n : Int))) w := by
  revert hx
  generalize a.eval = ev
  intro hx
  unfold execOp
  simp [ho, go_sem, hx, Builtin.len_, ht, run_underlying hu]
theorem run_index1' {a : Act} {o : Oper} {x ix : Operand} {t : TypeId} {s : ByteArray} {k : Nat} (ho : o.op = .index t x ix) (hx : a.eval x = .string s) (hi : a.eval ix = .int .i64 (k : Int)) (hk : k < s.size) (hu : P.underlying t = some .string) (w : World) :
    (execOp a.eval o).run P w = .ok (.value (.int .u8 ((s.data.toList.getD k 0).toNat : Int))) w := by
  have h0 : (0 : Int) ≤ (k : Int) := by omega
  have h1 : (k : Int) < (s.size : Int) := by omega
  revert hx hi
  generalize a.eval = ev
  intro hx hi
  unfold execOp
  simp [ho, go_sem, hx, hi, run_underlying hu, hu, hk, List.getD_eq_getElem?_getD]
  rfl
end
theorem act_ext0 {a b : Act} (hs : a.tmps.size = b.tmps.size) (hd : a.defers = b.defers) (h : ∀ t : Nat, a.eval (.tmp t) = b.eval (.tmp t)) : a = b := by
  obtain ⟨ta, da⟩ := a
  obtain ⟨tb, db⟩ := b
  simp only at hd hs
  subst hd
  congr 1
  apply Array.ext hs
  intro i h1 h2
  have := h i
  simpa [Act.eval, h1, h2] using this
/-- A frame out of another one, by the slots in which they may part. -/
theorem act_puts (a : Act) : ∀ (b : Act) (ds : List Nat), a.tmps.size = b.tmps.size → a.defers = b.defers → (∀ d ∈ ds, d < a.tmps.size) → (∀ t : Nat, t ∉ ds → a.eval (.tmp t) = b.eval (.tmp t)) → a = ds.foldl (fun c d => c.put (some d) (a.eval (.tmp d))) b
  | b, [], hs, hd, _, h => act_ext0 hs hd (fun t => h t (by simp))
  | b, d :: ds, hs, hd, hl, h => by
    refine act_puts a (b.put (some d) (a.eval (.tmp d))) ds (by rw [size_put, hs]) (by rw [defers_put, hd]) (fun x hx => hl x (by simp [hx])) (fun t ht => ?_)
    by_cases hdt : t = d
    · subst hdt
      rw [eval_put, if_pos ⟨rfl, by rw [← hs]; exact hl t (by simp)⟩]
    · rw [eval_put_ne (fun e => hdt e.symm)]
      exact h t (by simp [hdt, ht])
theorem conv_one {w : World} {g : Nat} {c : UInt8} (h : RowIs w g 5 [.int .u8 (c.toNat : Int)]) : (convert 141 9 (.slice (some ⟨g, 0, none⟩) 1 1)).run Tryz.prog w = .ok (.string (str [c])) w := by
  refine run_convert_bytes_back w _ _ 5 ⟨g, 0, none⟩ 1 [c] Tryz.underlying141 Tryz.underlying5 Tryz.underlying9 ?_
  intro j hj
  obtain rfl : j = 0 := by simpa using hj
  exact h.cellAt rfl

end Go.Proofs.YtjemklgfenciaaaGreat
