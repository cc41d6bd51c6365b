/-
  The schedule of the reference's Sum (the loop in block 4).
-/
import Derived.Test.YtlhlpcfjoccgcaaSha5
import Derived.Test.YtlhlpcfjoccgcaaOct5
import Derived.Test.YtlhlpcfjoccgcaaSha3
import Derived.Deep.RegionHeld3
import Derived.Test.YtlhlpcfjoccgcaaRefA
namespace Go.Proofs.Ytlhlpcfjoccgcaa
open Go.RowKit
set_option linter.unusedVariables false
set_option maxRecDepth 100000

theorem sg0_ref {x : Int} (h : W32 x) : bits BinOp.xor IntKind.u32 (bits BinOp.xor IntKind.u32 (rotl x (-7)) (rotl x (-18))) (x / 8) = sg0 x := by
  rw [bxor_eq (rotl_w _ h) (rotl_w _ h), bxor_eq (xorI_w (rotl_w _ h) (rotl_w _ h)) (div_w _ h (by decide))]; rfl
theorem sg1_ref {x : Int} (h : W32 x) : bits BinOp.xor IntKind.u32 (bits BinOp.xor IntKind.u32 (rotl x (-17)) (rotl x (-19))) (x / 1024) = sg1 x := by
  rw [bxor_eq (rotl_w _ h) (rotl_w _ h), bxor_eq (xorI_w (rotl_w _ h) (rotl_w _ h)) (div_w _ h (by decide))]; rfl
theorem str_part (l : List UInt8) (i j : Nat) : (str l).extract i (i + j) = str ((l.drop i).take j) := by
  unfold str
  apply ByteArray.ext
  apply Array.toList_inj.1
  simp [ByteArray.data_extract, List.take_drop]
theorem slice_str (w : World) (l : List UInt8) (a b : Int) (i j : Nat) (ha : a = (i : Int)) (hb : b = ((i + j : Nat) : Int)) (hj : i + j ≤ l.length) :
    (Instr.slice 9 (.string (str l)) (some (.int .i64 a)) (some (.int .i64 b)) none).run Try.prog w = .ok (.string (str ((l.drop i).take j))) w := by
  subst ha hb
  have h1 : (i : Int) + (j : Int) ≤ ((str l).size : Int) := by rw [str_size]; omega
  have h2 : (i : Int) ≤ (i : Int) + (j : Int) := by omega
  have h3 : (0 : Int) ≤ (i : Int) + (j : Int) := by omega
  have h4 : ((i : Int) + (j : Int)).toNat = i + j := by omega
  rw [← str_part]
  have h5 : (i : Int) ≤ ((i + j : Nat) : Int) := by omega
  have h6 : (Instr.sliceBound (.int .i64 (i : Int)) (i + j) BoundsCode.sliceB).run Try.prog w = .ok i w := by
    unfold Instr.sliceBound
    simp only [asIntOf, Sem.run_bind, Sem.run_pure, Result.andThen_ok]
    rw [if_pos ⟨by omega, h5⟩]
    rfl
  simp [Instr.slice, run_underlying Try.underlying9, Instr.sliceBounds, run_sliceBound, h1, h3, h4]
  rw [h6]
  rfl
theorem blk_part (all : List UInt8) (a k : Nat) (hk : k < 16) : ((((all.drop a).take 64).drop (4 * k)).take 4) = (all.drop (a + 4 * k)).take 4 := by
  rw [List.drop_take, List.drop_drop, List.take_take, Nat.min_eq_left (by omega)]

set_option maxRecDepth 1000000 in
set_option maxHeartbeats 4000000 in
theorem ref_schedule (c0 c1 c2 c3 c4 c9 c10 c11 c12 c13 c14 c15 c16 c17 c18 c19 c20 c21 c22 c23 c24 c25 c26 c27 c28 c29 c30 c31 c32 c33 c34 c35 c36 c37 c38 c39 c40 c41 c42 c43 c44 c45 c46 c47 c48 c49 c50 c51 c52 c53 c54 c55 c56 c57 c58 c59 c60 c61 c62 c63 c64 c65 c66 c67 c68 c69 c70 c71 c72 c73 c74 c75 c76 c77 c78 c79 c80 c81 c82 c83 c84 c85 c86 c87 c88 c89 c90 c91 c92 c93 c94 c95 c96 c97 c98 c99 c100 c101 c102 c103 c104 c105 c106 c107 c108 c109 c110 c111 c112 c113 c114 c115 c116 c117 c118 c119 c120 c121 c122 c123 c124 c125 c126 c127 c128 c129 c130 c131 c132 c133 c134 c135 c136 c137 c138 c139 c140 c141 c142 c143 c144 c145 c146 c147 c148 c149 c150 c151 c152 c153 c154 c155 c156 c157 c158 c159 c160 c161 c162 c163 c164 c165 c166 c167 c168 c169 c170 c171 c172 c173 c174 c175 c176 c177 c178 c179 c180 c181 c182 c183 c184 c185 c186 c187 c188 c189 c190 c191 c192 c193 c194 c195 c196 c197 c198 c199 c200 c201 c202 c203 c204 c205 c206 c207 c208 c209 c210 c211 c212 c213 c214 c215 c216 c217 c218 c219 c220 c221 c222 c223 c224 c225 c226 c227 c228 c229 c230 c231 c232 c233 c234 : Value) (gw at_ : Nat) (all : List UInt8) (w : World) (Q0 : Exit → Act → World → Prop)
    (hat : at_ + 64 ≤ all.length) (hall : all.length ≤ 1152921504606846976) (hw : RowIs w gw 76 (cells32 z64))
    (hexit : ∀ (d8 d9 d10 d11 d12 d45 d46 d47 d48 d49 d50 d51 d52 d53 d54 d55 d56 d57 d58 d59 d60 d61 d62 d63 d64 d65 d66 d67 d68 d69 d70 d71 d72 d73 d74 d75 d76 d77 d78 d79 d80 d81 d82 d83 d84 d85 d86 d87 d88 d89 d90 d91 d92 d93 d94 d95 d96 d97 d98 d99 d100 d101 d102 d103 d104 : Value) (w' : World), RowIs w' gw 76 (cells32 (wTo ((all.drop at_).take 64) 64)) → Upon gw w w' → Q0 (.exit 4) ⟨(List.toArray (c0 :: c1 :: c2 :: c3 :: c4 :: .string (str all) :: .int .i64 (at_ : Int) :: .pointer (some ⟨gw, 0, none⟩) :: d8 :: d9 :: d10 :: d11 :: d12 :: c13 :: c14 :: c15 :: c16 :: c17 :: c18 :: c19 :: c20 :: c21 :: c22 :: c23 :: c24 :: c25 :: c26 :: c27 :: c28 :: c29 :: c30 :: c31 :: c32 :: c33 :: c34 :: c35 :: c36 :: c37 :: c38 :: c39 :: c40 :: c41 :: c42 :: c43 :: c44 :: d45 :: d46 :: d47 :: d48 :: d49 :: d50 :: d51 :: d52 :: d53 :: d54 :: d55 :: d56 :: d57 :: d58 :: d59 :: d60 :: d61 :: d62 :: d63 :: d64 :: d65 :: d66 :: d67 :: d68 :: d69 :: d70 :: d71 :: d72 :: d73 :: d74 :: d75 :: d76 :: d77 :: d78 :: d79 :: d80 :: d81 :: d82 :: d83 :: d84 :: d85 :: d86 :: d87 :: d88 :: d89 :: d90 :: d91 :: d92 :: d93 :: d94 :: d95 :: d96 :: d97 :: d98 :: d99 :: d100 :: d101 :: d102 :: d103 :: d104 :: c105 :: c106 :: c107 :: c108 :: c109 :: c110 :: c111 :: c112 :: c113 :: c114 :: c115 :: c116 :: c117 :: c118 :: c119 :: c120 :: c121 :: c122 :: c123 :: c124 :: c125 :: c126 :: c127 :: c128 :: c129 :: c130 :: c131 :: c132 :: c133 :: c134 :: c135 :: c136 :: c137 :: c138 :: c139 :: c140 :: c141 :: c142 :: c143 :: c144 :: c145 :: c146 :: c147 :: c148 :: c149 :: c150 :: c151 :: c152 :: c153 :: c154 :: c155 :: c156 :: c157 :: c158 :: c159 :: c160 :: c161 :: c162 :: c163 :: c164 :: c165 :: c166 :: c167 :: c168 :: c169 :: c170 :: c171 :: c172 :: c173 :: c174 :: c175 :: c176 :: c177 :: c178 :: c179 :: c180 :: c181 :: c182 :: c183 :: c184 :: c185 :: c186 :: c187 :: c188 :: c189 :: c190 :: c191 :: c192 :: c193 :: c194 :: c195 :: c196 :: c197 :: c198 :: c199 :: c200 :: c201 :: c202 :: c203 :: c204 :: c205 :: c206 :: c207 :: c208 :: c209 :: c210 :: c211 :: c212 :: c213 :: c214 :: c215 :: c216 :: c217 :: c218 :: c219 :: c220 :: c221 :: c222 :: c223 :: c224 :: c225 :: c226 :: c227 :: c228 :: c229 :: c230 :: c231 :: c232 :: c233 :: c234 :: [])), []⟩ w') :
    Code.wp Try.prog ((Try.f45.body.bind (blkOf 4)).getD .skip) Q0 ⟨(List.toArray (c0 :: c1 :: c2 :: c3 :: c4 :: .string (str all) :: .int .i64 (at_ : Int) :: .pointer (some ⟨gw, 0, none⟩) :: .int .i64 0 :: c9 :: c10 :: c11 :: c12 :: c13 :: c14 :: c15 :: c16 :: c17 :: c18 :: c19 :: c20 :: c21 :: c22 :: c23 :: c24 :: c25 :: c26 :: c27 :: c28 :: c29 :: c30 :: c31 :: c32 :: c33 :: c34 :: c35 :: c36 :: c37 :: c38 :: c39 :: c40 :: c41 :: c42 :: c43 :: c44 :: c45 :: c46 :: c47 :: c48 :: c49 :: c50 :: c51 :: c52 :: c53 :: c54 :: c55 :: c56 :: c57 :: c58 :: c59 :: c60 :: c61 :: c62 :: c63 :: c64 :: c65 :: c66 :: c67 :: c68 :: c69 :: c70 :: c71 :: c72 :: c73 :: c74 :: c75 :: c76 :: c77 :: c78 :: c79 :: c80 :: c81 :: c82 :: c83 :: c84 :: c85 :: c86 :: c87 :: c88 :: c89 :: c90 :: c91 :: c92 :: c93 :: c94 :: c95 :: c96 :: c97 :: c98 :: c99 :: c100 :: c101 :: c102 :: c103 :: c104 :: c105 :: c106 :: c107 :: c108 :: c109 :: c110 :: c111 :: c112 :: c113 :: c114 :: c115 :: c116 :: c117 :: c118 :: c119 :: c120 :: c121 :: c122 :: c123 :: c124 :: c125 :: c126 :: c127 :: c128 :: c129 :: c130 :: c131 :: c132 :: c133 :: c134 :: c135 :: c136 :: c137 :: c138 :: c139 :: c140 :: c141 :: c142 :: c143 :: c144 :: c145 :: c146 :: c147 :: c148 :: c149 :: c150 :: c151 :: c152 :: c153 :: c154 :: c155 :: c156 :: c157 :: c158 :: c159 :: c160 :: c161 :: c162 :: c163 :: c164 :: c165 :: c166 :: c167 :: c168 :: c169 :: c170 :: c171 :: c172 :: c173 :: c174 :: c175 :: c176 :: c177 :: c178 :: c179 :: c180 :: c181 :: c182 :: c183 :: c184 :: c185 :: c186 :: c187 :: c188 :: c189 :: c190 :: c191 :: c192 :: c193 :: c194 :: c195 :: c196 :: c197 :: c198 :: c199 :: c200 :: c201 :: c202 :: c203 :: c204 :: c205 :: c206 :: c207 :: c208 :: c209 :: c210 :: c211 :: c212 :: c213 :: c214 :: c215 :: c216 :: c217 :: c218 :: c219 :: c220 :: c221 :: c222 :: c223 :: c224 :: c225 :: c226 :: c227 :: c228 :: c229 :: c230 :: c231 :: c232 :: c233 :: c234 :: [])), []⟩ w := by
  conv => arg 2; whnf
  have HX : Hid (∀ (d8 d9 d10 d11 d12 d45 d46 d47 d48 d49 d50 d51 d52 d53 d54 d55 d56 d57 d58 d59 d60 d61 d62 d63 d64 d65 d66 d67 d68 d69 d70 d71 d72 d73 d74 d75 d76 d77 d78 d79 d80 d81 d82 d83 d84 d85 d86 d87 d88 d89 d90 d91 d92 d93 d94 d95 d96 d97 d98 d99 d100 d101 d102 d103 d104 : Value) (w' : World), RowIs w' gw 76 (cells32 (wTo ((all.drop at_).take 64) 64)) → Upon gw w w' → Q0 (.exit 4) ⟨(List.toArray (c0 :: c1 :: c2 :: c3 :: c4 :: .string (str all) :: .int .i64 (at_ : Int) :: .pointer (some ⟨gw, 0, none⟩) :: d8 :: d9 :: d10 :: d11 :: d12 :: c13 :: c14 :: c15 :: c16 :: c17 :: c18 :: c19 :: c20 :: c21 :: c22 :: c23 :: c24 :: c25 :: c26 :: c27 :: c28 :: c29 :: c30 :: c31 :: c32 :: c33 :: c34 :: c35 :: c36 :: c37 :: c38 :: c39 :: c40 :: c41 :: c42 :: c43 :: c44 :: d45 :: d46 :: d47 :: d48 :: d49 :: d50 :: d51 :: d52 :: d53 :: d54 :: d55 :: d56 :: d57 :: d58 :: d59 :: d60 :: d61 :: d62 :: d63 :: d64 :: d65 :: d66 :: d67 :: d68 :: d69 :: d70 :: d71 :: d72 :: d73 :: d74 :: d75 :: d76 :: d77 :: d78 :: d79 :: d80 :: d81 :: d82 :: d83 :: d84 :: d85 :: d86 :: d87 :: d88 :: d89 :: d90 :: d91 :: d92 :: d93 :: d94 :: d95 :: d96 :: d97 :: d98 :: d99 :: d100 :: d101 :: d102 :: d103 :: d104 :: c105 :: c106 :: c107 :: c108 :: c109 :: c110 :: c111 :: c112 :: c113 :: c114 :: c115 :: c116 :: c117 :: c118 :: c119 :: c120 :: c121 :: c122 :: c123 :: c124 :: c125 :: c126 :: c127 :: c128 :: c129 :: c130 :: c131 :: c132 :: c133 :: c134 :: c135 :: c136 :: c137 :: c138 :: c139 :: c140 :: c141 :: c142 :: c143 :: c144 :: c145 :: c146 :: c147 :: c148 :: c149 :: c150 :: c151 :: c152 :: c153 :: c154 :: c155 :: c156 :: c157 :: c158 :: c159 :: c160 :: c161 :: c162 :: c163 :: c164 :: c165 :: c166 :: c167 :: c168 :: c169 :: c170 :: c171 :: c172 :: c173 :: c174 :: c175 :: c176 :: c177 :: c178 :: c179 :: c180 :: c181 :: c182 :: c183 :: c184 :: c185 :: c186 :: c187 :: c188 :: c189 :: c190 :: c191 :: c192 :: c193 :: c194 :: c195 :: c196 :: c197 :: c198 :: c199 :: c200 :: c201 :: c202 :: c203 :: c204 :: c205 :: c206 :: c207 :: c208 :: c209 :: c210 :: c211 :: c212 :: c213 :: c214 :: c215 :: c216 :: c217 :: c218 :: c219 :: c220 :: c221 :: c222 :: c223 :: c224 :: c225 :: c226 :: c227 :: c228 :: c229 :: c230 :: c231 :: c232 :: c233 :: c234 :: [])), []⟩ w') := hexit
  clear hexit
  have hbl : ((all.drop at_).take 64).length = 64 := by simp; omega
  have HBP : Hid (∀ k, k < 16 → ((((all.drop at_).take 64).drop (4 * k)).take 4) = (all.drop (at_ + 4 * k)).take 4) := fun k hk => blk_part all at_ k hk
  have hsz : (str all).size = all.length := str_size all
  have HSZ : Hid ((str all).size = all.length) := hsz
  have hszI : ((at_ : Int) + 64) ≤ ((str all).size : Int) := by rw [hsz]; omega
  have hszM : (str all).size ≤ 1152921504606846976 := by rw [hsz]; omega
  clear hsz
  go_loopw [8] (fun i wr => ∃ k : Nat, k ≤ 64 ∧ i = .int .i64 k ∧ RowIs wr gw 76 (cells32 (wTo ((all.drop at_).take 64) k ++ List.replicate (64 - k) 0)) ∧ Upon gw w wr) (fun i _ => 64 - (intOf i).toNat)
  case atStart => exact ⟨0, by omega, rfl, hw, Upon.refl _ _⟩
  case round =>
    clear hw
    obtain ⟨k, hk, rfl, hrow, hup⟩ := hrel
    by_cases hlt : k < 64
    · clear HX
      have HN : Hid ((cells32 (wTo ((all.drop at_).take 64) k ++ List.replicate (64 - k) 0)).set k (.int .u32 (wNext ((all.drop at_).take 64) (wTo ((all.drop at_).take 64) k))) = cells32 (wTo ((all.drop at_).take 64) (k + 1) ++ List.replicate (64 - (k + 1)) 0)) := row_next _ k (by omega)
      have hcell := hrow.cellAt (j := k) (List.getElem?_eq_getElem (by rw [row_len _ k (by omega)]; omega))
      generalize (cells32 (wTo ((all.drop at_).take 64) k ++ List.replicate (64 - k) 0))[k]'_ = old at hcell
      have hfr := hrow.frozen k
      have k0 : (0 : Int) ≤ (k : Int) := by omega
      have k64 : (k : Int) < 64 := by omega
      by_cases hlo : k < 16
      · have hp : ((all.drop (at_ + 4 * k)).take 4).length = 4 := by simp; omega
        have hex : (str all).extract (at_ + 4 * k) (at_ + 4 * k + 4) = str ((all.drop (at_ + 4 * k)).take 4) := str_part all _ _
        have HB : Hid (bigS (str ((all.drop (at_ + 4 * k)).take 4)) = wNext ((all.drop at_).take 64) (wTo ((all.drop at_).take 64) k)) := by rw [wNext_lo _ k hlo, HBP.out k hlo]; exact big4 _ (by omega)
        have hst : (str ((all.drop (at_ + 4 * k)).take 4)).size ≤ maxLen := by rw [str_size, hp]; decide
        have hwn : W32 (wNext ((all.drop at_).take 64) (wTo ((all.drop at_).take 64) k)) := by rw [wNext_lo _ k hlo]; exact num4_w _ (by simp; omega)
        have hw0 := hwn.1
        have hw1 := hwn.2
        generalize wNext ((all.drop at_).take 64) (wTo ((all.drop at_).take 64) k) = nx at *
        have hsl : ∀ w', (Instr.slice 9 (.string (str all)) (some (.int .i64 ((at_ : Int) + 4 * (k : Int)))) (some (.int .i64 ((at_ : Int) + 4 * (k : Int) + 4))) none).run Try.prog w' = .ok (.string (str ((all.drop (at_ + 4 * k)).take 4))) w' := fun w' => slice_str w' all _ _ (at_ + 4 * k) 4 (by omega) (by omega) (by omega)
        go_wp2_with (first | (go_at_call 54; refine (ref_big _ _ hst).mono ?_; rintro e w' ⟨rfl, rfl⟩; rw [HB.out]))
        go_roundw
        case rel => exact ⟨k + 1, by omega, by go_num, by rw [← HN.out]; exact hrow.set _ _, hup.setCell _ _⟩
        case measure => simp [intOf]; omega
      · have c16 := hrow.cellAt (row_at _ k (k - 16) (by omega) (by omega))
        have c15 := hrow.cellAt (row_at _ k (k - 15) (by omega) (by omega))
        have c7' := hrow.cellAt (row_at _ k (k - 7) (by omega) (by omega))
        have c2' := hrow.cellAt (row_at _ k (k - 2) (by omega) (by omega))
        have HW : Hid (wNext ((all.drop at_).take 64) (wTo ((all.drop at_).take 64) k) = _) := wNext_hi _ k hlo
        have w15 := getD_w (wTo_w ((all.drop at_).take 64) k) (k - 15)
        have w2 := getD_w (wTo_w ((all.drop at_).take 64) k) (k - 2)
        generalize (wTo ((all.drop at_).take 64) k).getD (k - 16) 0 = x16 at *
        generalize (wTo ((all.drop at_).take 64) k).getD (k - 15) 0 = x15 at *
        generalize (wTo ((all.drop at_).take 64) k).getD (k - 7) 0 = x7 at *
        generalize (wTo ((all.drop at_).take 64) k).getD (k - 2) 0 = x2 at *
        have e1 := sg0_ref w15
        have e2 := sg1_ref w2
        have l15 := w15.1
        have u15 := w15.2
        have l2 := w2.1
        have u2 := w2.2
        have a16 : IntKind.i64.wrap ((k : Int) - 16) = (k : Int) - 16 := IntWalk.i64_in _ ⟨by omega, by omega⟩
        have a15 : IntKind.i64.wrap ((k : Int) - 15) = (k : Int) - 15 := IntWalk.i64_in _ ⟨by omega, by omega⟩
        have a7 : IntKind.i64.wrap ((k : Int) - 7) = (k : Int) - 7 := IntWalk.i64_in _ ⟨by omega, by omega⟩
        have a2 : IntKind.i64.wrap ((k : Int) - 2) = (k : Int) - 2 := IntWalk.i64_in _ ⟨by omega, by omega⟩
        have i16 : ∀ w', (Instr.indexAt 76 (.pointer (some ⟨gw, 0, none⟩)) (.int .i64 ((k : Int) - 16))).run Try.prog w' = .ok (.pointer (some ⟨gw, k - 16, none⟩)) w' := fun w' => by have := index39 w' gw 0 ((k : Int) - 16) (k - 16) (by omega) (by omega); rwa [Nat.zero_add] at this
        have i15 : ∀ w', (Instr.indexAt 76 (.pointer (some ⟨gw, 0, none⟩)) (.int .i64 ((k : Int) - 15))).run Try.prog w' = .ok (.pointer (some ⟨gw, k - 15, none⟩)) w' := fun w' => by have := index39 w' gw 0 ((k : Int) - 15) (k - 15) (by omega) (by omega); rwa [Nat.zero_add] at this
        have i7 : ∀ w', (Instr.indexAt 76 (.pointer (some ⟨gw, 0, none⟩)) (.int .i64 ((k : Int) - 7))).run Try.prog w' = .ok (.pointer (some ⟨gw, k - 7, none⟩)) w' := fun w' => by have := index39 w' gw 0 ((k : Int) - 7) (k - 7) (by omega) (by omega); rwa [Nat.zero_add] at this
        have i2 : ∀ w', (Instr.indexAt 76 (.pointer (some ⟨gw, 0, none⟩)) (.int .i64 ((k : Int) - 2))).run Try.prog w' = .ok (.pointer (some ⟨gw, k - 2, none⟩)) w' := fun w' => by have := index39 w' gw 0 ((k : Int) - 2) (k - 2) (by omega) (by omega); rwa [Nat.zero_add] at this
        go_wp2_with fail
        go_region_held3 (fun w' => w'.cell? ⟨gw, k - 15, none⟩ = some (.int .u32 x15) ∧ w'.cell? ⟨gw, k - 2, none⟩ = some (.int .u32 x2)) (go_keep) (fail)
        go_wp2_with fail
        refine (ref_left x15 _ _ w15.1 w15.2).mono ?_
        rintro e w' ⟨rfl, rfl⟩
        go_wp2_with fail
        refine (ref_left x15 _ _ w15.1 w15.2).mono ?_
        rintro e w' ⟨rfl, rfl⟩
        go_wp2_with fail
        refine (ref_left x2 _ _ w2.1 w2.2).mono ?_
        rintro e w' ⟨rfl, rfl⟩
        go_wp2_with fail
        refine (ref_left x2 _ _ w2.1 w2.2).mono ?_
        rintro e w' ⟨rfl, rfl⟩
        go_wp2_with fail
        go_region_held3 (fun w' => w'.cell? ⟨gw, k - 16, none⟩ = some (.int .u32 x16) ∧ w'.cell? ⟨gw, k - 7, none⟩ = some (.int .u32 x7)) (first | (go_split_ands; refine ⟨?_, ?_⟩ <;> first | assumption | (refine cell_set_other ?_ ?_; assumption; omega) | (rw [World.cell?_drew]; assumption)) | go_keep) (fail)
        go_wp2
        go_roundw
        case rel =>
          have e : (((x16 + sg0 x15) % 4294967296 + x7) % 4294967296 + sg1 x2) % 4294967296 = wNext ((all.drop at_).take 64) (wTo ((all.drop at_).take 64) k) := by
            rw [HW.out]; rfl
          rw [e]
          exact ⟨k + 1, by omega, by go_num, by rw [← HN.out]; exact (hrow.set _ _).drew.drew, (hup.setCell _ _).drew.drew⟩
        case measure => simp [intOf]; omega
    · have hk64 : k = 64 := by omega
      have hrow' : RowIs wr gw 76 (cells32 (wTo ((all.drop at_).take 64) 64)) := by
        rw [hk64] at hrow; simpa using hrow
      clear hrow hk64 hk
      go_wp2
      exact HX.out _ _ _ _ _ _ _ _ _ _ _ _ _ _ _ _ _ _ _ _ _ _ _ _ _ _ _ _ _ _ _ _ _ _ _ _ _ _ _ _ _ _ _ _ _ _ _ _ _ _ _ _ _ _ _ _ _ _ _ _ _ _ _ _ _ _ hrow' hup

end Go.Proofs.Ytlhlpcfjoccgcaa
