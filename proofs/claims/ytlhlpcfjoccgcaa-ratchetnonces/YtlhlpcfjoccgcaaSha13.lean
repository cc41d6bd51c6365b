/-
  The contracts of a Digest's Sum and Len, of those calls on no Digest, and of digest.Sum.
-/
import Derived.Test.YtlhlpcfjoccgcaaSha12
namespace Go.Proofs.Ytlhlpcfjoccgcaa
open Go.RowKit
set_option linter.unusedVariables false
set_option maxRecDepth 100000

theorem upon_new {b c : Nat} {u v w : World} (h : Upon b u v) (k : Upon c v w) (hc : u.heap.size ≤ c) : Upon b u w :=
  ⟨k.os.trans h.os, k.tape.trans h.tape, k.output.trans h.output, Nat.le_trans h.size k.size, fun i hi hb => (k.block i (Nat.lt_of_lt_of_le hi h.size) (by omega)).trans (h.block i hi hb)⟩
theorem Ready.upon {w w' : World} {b c : Nat} {bs : List UInt8} (h : Ready w b bs) (hu : Upon c w w') (hc : b ≠ c) : Ready w' b bs := h.kept (hu.block b h.lt hc)
theorem Ready.below {w w' : World} {b : Nat} {bs : List UInt8} (h : Ready w b bs) (hb : Below w.heap.size w w') : Ready w' b bs := h.kept (hb.block b h.lt)
theorem list_w {s : S8} (h : s.ok) : ∀ x ∈ s.list, W32 x := by
  obtain ⟨h1, h2, h3, h4, h5, h6, h7, h8⟩ := h
  intro x hx
  simp only [S8.list, List.mem_cons, List.not_mem_nil, or_false] at hx
  rcases hx with rfl | rfl | rfl | rfl | rfl | rfl | rfl | rfl <;> assumption
theorem toldTo_told (s : S8) : toldTo s.list 8 = told s := by
  unfold toldTo told
  rw [List.take_of_length_le (by rw [list_len]; omega)]
theorem sha_of (bs : List UInt8) : toldTo (absorb (bs ++ padL bs.length) ((bs ++ padL bs.length).length / 64)).list 8 = shaL bs := by
  rw [toldTo_told, shaL, List.length_append, padL_len, Nat.add_assoc]
theorem Ready.st {w : World} {b : Nat} {bs : List UInt8} (h : Ready w b bs) : w.rangeAt b 67 (cells32 (absorb bs (bs.length / 64)).list) := by
  obtain ⟨blk, hb, _, hr⟩ := h
  exact hr.range (digRow_st kTab_len)
theorem Ready.len {w : World} {b : Nat} {bs : List UInt8} (h : Ready w b bs) : w.cell? ⟨b, 139, none⟩ = some (.int .i64 (bs.length : Int)) := by
  obtain ⟨blk, hb, _, hr⟩ := h
  exact hr.cellAt (digRow_length kTab_len (list_len _) hb)
theorem DigAt.len {w : World} {b : Nat} {bs : List UInt8} (h : DigAt w b bs) : w.cell? ⟨b, 139, none⟩ = some (.int .i64 (bs.length : Int)) := by
  rcases h with h | ⟨rfl, tab, st, blk, ht, hs, hb, hr⟩
  · exact h.len
  · exact hr.cellAt (digRow_length ht hs hb)

theorem dig_sum_nil (w : World) :
    Calls Try.prog 57 #[.pointer none] w fun e w' => e = .returned (.string ⟨#[]⟩) ∧ w = w' := by
  go_enter Try.func57, Try.ntmps57
  go_wp2
  go_ret
  exact ⟨rfl, rfl⟩
theorem dig_add_nil (s : ByteArray) (w : World) :
    Calls Try.prog 56 #[.pointer none, .string s] w fun e w' => e = .returned (.tuple #[]) ∧ w = w' := by
  go_enter Try.func56, Try.ntmps56
  go_wp2
  first | go_end0 | (simp only [Exit.inBlock, Exit.then]; refine bodyPost_ret (results_none rfl _ _ _) rfl ?_) | refine bodyPost_ret (results_none rfl _ _ _) rfl ?_
  exact ⟨rfl, rfl⟩
theorem dig_copy_nil (w : World) :
    Calls Try.prog 63 #[.pointer none] w fun e w' => e = .returned (.pointer none) ∧ Below w.heap.size w w' := by
  go_enter Try.func63, Try.ntmps63
  go_wp2
  go_ret
  exact ⟨rfl, (Below.refl _ _).alloc (Nat.le_refl _) _⟩

set_option maxRecDepth 100000 in
set_option maxHeartbeats 1000000 in
theorem dig_sum (b : Nat) (bs : List UInt8) (w : World) (h : DigAt w b bs) (hlen : bs.length ≤ 288230376151711744) :
    Calls Try.prog 57 #[.pointer (some ⟨b, 0, none⟩)] w fun e w' => e = .returned (.string (str (shaL bs))) ∧ Ready w' b bs ∧ Upon b w w' := by
  have hblt := h.lt
  go_enter Try.func57, Try.ntmps57
  go_wp2_with fail
  refine (dig_copy b bs _ h).mono ?_
  rintro e w1 ⟨c, rfl, hcn, hrc, hrb, hu1⟩
  clear h
  have hl := hrb.len
  have HL : Hid ((padL bs.length).length = 9 + padZ bs.length) := padL_len _
  have hz := padZ_lt bs.length
  have HS : Hid (toldTo (absorb (bs ++ padL bs.length) ((bs ++ padL bs.length).length / 64)).list 8 = shaL bs) := sha_of bs
  go_wp2_with fail
  refine (dig_padding bs.length _ (by omega)).mono ?_
  rintro e w2 ⟨rfl, hb2⟩
  have hrc2 := hrc.below hb2
  have hrb2 := hrb.below hb2
  have hu2 : Upon b w w2 := hu1.trans (Upon.of_below hb2)
  clear hrc hrb hb2 hu1 hl
  go_wp2_with fail
  refine (dig_add c bs (padL bs.length) _ (Or.inl hrc2) (by have := HL.out; omega)).mono ?_
  rintro e w3 ⟨rfl, hrc3, hu3⟩
  have hrb3 := hrb2.upon hu3 (by omega)
  have hu3' : Upon b w w3 := upon_new hu2 hu3 hcn
  clear hrc2 hrb2 hu2 hu3
  go_wp2_with fail
  refine (dig_told c _ _ (list_len _) (list_w (absorb_ok _ _)) hrc3.st hrc3.lt).mono ?_
  rintro e w4 ⟨rfl, hb4⟩
  rw [HS.out]
  have hrb4 := hrb3.below hb4
  have hu4 : Upon b w w4 := hu3'.trans (Upon.of_below hb4)
  go_wp2
  go_ret
  exact ⟨rfl, hrb4, hu4⟩

set_option maxRecDepth 100000 in
set_option maxHeartbeats 1000000 in
theorem digest_sum (s : ByteArray) (w : World) (hlen : s.size ≤ 288230376151711744) :
    Calls Try.prog 47 #[.string s] w fun e w' => e = .returned (.string (shaS s)) ∧ Below w.heap.size w w' := by
  have hsb := str_back s
  obtain ⟨l, rfl⟩ : ∃ l, s = str l := ⟨_, hsb.symm⟩
  have HSH : Hid (shaS (str l) = str (shaL l)) := by unfold shaS str; rfl
  rw [str_size] at hlen
  clear hsb
  go_enter Try.func47, Try.ntmps47
  go_wp2_with (refine wpList_alloc rfl rfl run_alloc43 ?_)
  have hd := fresh_new w
  have hb1 : Below w.heap.size w (w.alloc (.cells digZero.toArray 91)) := (Below.refl _ _).alloc (Nat.le_refl _) _
  have hs1 : w.heap.size < (w.alloc (.cells digZero.toArray 91)).heap.size := by simp
  generalize w.alloc (.cells digZero.toArray 91) = w1 at *
  refine (dig_add w.heap.size [] l _ hd (by simp; omega)).mono ?_
  rintro e w2 ⟨rfl, hr2, hu2⟩
  rw [List.nil_append] at hr2
  have hb2 : Below w.heap.size w w2 := hb1.trans (hu2.below (Nat.le_refl _) (by omega))
  clear hd hb1
  go_wp2_with fail
  refine (dig_sum w.heap.size l _ (Or.inl hr2) hlen).mono ?_
  rintro e w3 ⟨rfl, hr3, hu3⟩
  have hb3 : Below w.heap.size w w3 := hb2.trans (hu3.below (Nat.le_refl _) (Nat.le_of_lt (Nat.lt_of_lt_of_le hs1 hu2.size)))
  go_wp2
  go_ret
  exact ⟨ret_str HSH.out.symm, hb3⟩

end Go.Proofs.Ytlhlpcfjoccgcaa
