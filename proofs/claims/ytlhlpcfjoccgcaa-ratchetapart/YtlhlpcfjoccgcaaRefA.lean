/-
  The rounds of the reference's Sum (the loop in block 6).
-/
import Derived.Test.YtlhlpcfjoccgcaaSha5
import Derived.Test.YtlhlpcfjoccgcaaOct5
import Derived.Test.YtlhlpcfjoccgcaaSha3
import Derived.Deep.RegionHeld3
namespace Go.Proofs.Ytlhlpcfjoccgcaa
open Go.RowKit
set_option linter.unusedVariables false
set_option maxRecDepth 100000

/-- The body of the block of that number. -/
def blkOf (k : Nat) : Code → Option Code
  | .block j c => if j = k then some c else blkOf k c
  | .seq a b => match blkOf k a with
    | some c => some c
    | none => blkOf k b
  | .loop c => blkOf k c
  | .scope c => blkOf k c
  | .cond _ a b => match blkOf k a with
    | some c => some c
    | none => blkOf k b
  | _ => none

theorem ch_ref {e f g : Int} (he : W32 e) (hf : W32 f) (hg : W32 g) : bits BinOp.xor IntKind.u32 (bits BinOp.and IntKind.u32 e f) (bits BinOp.and IntKind.u32 (4294967295 - e) g) = chI e f g := by
  rw [band_eq he hf, band_eq (not_w he) hg, bxor_eq (andI_w he) (andI_w (not_w he))]; rfl
theorem maj_ref {a b c : Int} (ha : W32 a) (hb : W32 b) (hc : W32 c) : bits BinOp.xor IntKind.u32 (bits BinOp.xor IntKind.u32 (bits BinOp.and IntKind.u32 a b) (bits BinOp.and IntKind.u32 a c)) (bits BinOp.and IntKind.u32 b c) = majI a b c := by
  rw [band_eq ha hb, band_eq ha hc, band_eq hb hc, bxor_eq (andI_w ha) (andI_w ha), bxor_eq (xorI_w (andI_w ha) (andI_w ha)) (andI_w hb)]; rfl
theorem bs1_ref {x : Int} (h : W32 x) : bits BinOp.xor IntKind.u32 (bits BinOp.xor IntKind.u32 (rotl x (-6)) (rotl x (-11))) (rotl x (-25)) = bs1 x := by
  rw [bxor_eq (rotl_w _ h) (rotl_w _ h), bxor_eq (xorI_w (rotl_w _ h) (rotl_w _ h)) (rotl_w _ h)]; rfl
theorem bs0_ref {x : Int} (h : W32 x) : bits BinOp.xor IntKind.u32 (bits BinOp.xor IntKind.u32 (rotl x (-2)) (rotl x (-13))) (rotl x (-22)) = bs0 x := by
  rw [bxor_eq (rotl_w _ h) (rotl_w _ h), bxor_eq (xorI_w (rotl_w _ h) (rotl_w _ h)) (rotl_w _ h)]; rfl

set_option maxRecDepth 1000000 in
set_option maxHeartbeats 4000000 in
theorem ref_rounds (c0 c1 c2 c4 c5 c6 c8 c9 c10 c11 c12 c15 c16 c17 c18 c19 c20 c21 c22 c23 c24 c25 c26 c27 c28 c29 c30 c31 c32 c33 c34 c35 c36 c37 c38 c39 c40 c41 c42 c43 c44 c45 c46 c47 c48 c49 c50 c51 c52 c53 c54 c55 c56 c57 c58 c59 c60 c61 c62 c63 c64 c65 c66 c67 c68 c69 c70 c71 c72 c73 c74 c75 c76 c77 c78 c79 c80 c81 c82 c83 c84 c85 c86 c87 c88 c89 c90 c91 c92 c93 c94 c95 c96 c97 c98 c99 c100 c101 c102 c103 c104 c105 c106 c107 c108 c109 c110 c111 c112 c113 c114 c115 c116 c117 c118 c119 c120 c121 c122 c123 c124 c125 c126 c127 c128 c129 c130 c131 c132 c133 c134 c135 c136 c137 c138 c139 c140 c141 c142 c143 c144 c145 c146 c147 c148 c149 c150 c151 c152 c153 c154 c155 c156 c157 c158 c159 c160 c161 c162 c163 c164 c165 c166 c167 c168 c169 c170 c171 c172 c173 c174 c175 c176 c177 c178 c179 c180 c181 c182 c183 c184 c185 c186 c187 c188 c189 c190 c191 c192 c193 c194 c195 c196 c197 c198 c199 c200 c201 c202 c203 c204 c205 c206 c207 c208 c209 c210 c211 c212 c213 c214 c215 c216 c217 c218 c219 c220 c221 c222 c223 c224 c225 c226 c227 c228 c229 c230 c231 c232 c233 c234 : Value) (gt gw g0 cap0 : Nat) (ks ws : List Int) (s : S8) (hs : s.ok) (w : World) (Q0 : Exit → Act → World → Prop)
    (lk : ks.length = 64) (lw : ws.length = 64) (ht : w.rangeAt gt 0 (cells32 ks)) (ht1 : gt < w.heap.size) (hw : w.rangeAt gw 0 (cells32 ws)) (hw1 : gw < w.heap.size) (hv : w.rangeAt g0 0 (cells32 s.list)) (hv1 : g0 < w.heap.size)
    (hexit : ∀ (d14 d15 d16 d17 d18 d107 d108 d109 d110 d111 d112 d113 d114 d115 d116 d117 d118 d119 d120 d121 d122 d123 d124 d125 d126 d127 d128 d129 d130 d131 d132 d133 d134 d135 d136 d137 d138 d139 d140 d141 d142 d143 d144 d145 d146 d147 d148 d149 d150 d151 d152 d153 d154 d155 d156 d157 d158 d159 d160 d161 d162 d163 d164 d165 d166 d167 d168 d169 d170 d171 d172 d173 d174 d175 d176 d177 d178 d179 d180 d181 d182 d183 d184 d185 d186 d187 d188 d189 d190 d191 d192 d193 d194 d195 d196 d197 d198 d199 d200 d201 d202 d203 d204 d205 : Value) (g cap : Nat) (w' : World), w'.rangeAt g 0 (cells32 (rnds ks ws 64 s).list) → (g = g0 ∨ w.heap.size ≤ g) → Below w.heap.size w w' → Q0 (.exit 6) ⟨(List.toArray (c0 :: c1 :: c2 :: .slice (some ⟨gt, 0, none⟩) 64 64 :: c4 :: c5 :: c6 :: .pointer (some ⟨gw, 0, none⟩) :: c8 :: c9 :: c10 :: c11 :: c12 :: .slice (some ⟨g, 0, none⟩) 8 cap :: d14 :: d15 :: d16 :: d17 :: d18 :: c19 :: c20 :: c21 :: c22 :: c23 :: c24 :: c25 :: c26 :: c27 :: c28 :: c29 :: c30 :: c31 :: c32 :: c33 :: c34 :: c35 :: c36 :: c37 :: c38 :: c39 :: c40 :: c41 :: c42 :: c43 :: c44 :: c45 :: c46 :: c47 :: c48 :: c49 :: c50 :: c51 :: c52 :: c53 :: c54 :: c55 :: c56 :: c57 :: c58 :: c59 :: c60 :: c61 :: c62 :: c63 :: c64 :: c65 :: c66 :: c67 :: c68 :: c69 :: c70 :: c71 :: c72 :: c73 :: c74 :: c75 :: c76 :: c77 :: c78 :: c79 :: c80 :: c81 :: c82 :: c83 :: c84 :: c85 :: c86 :: c87 :: c88 :: c89 :: c90 :: c91 :: c92 :: c93 :: c94 :: c95 :: c96 :: c97 :: c98 :: c99 :: c100 :: c101 :: c102 :: c103 :: c104 :: c105 :: c106 :: d107 :: d108 :: d109 :: d110 :: d111 :: d112 :: d113 :: d114 :: d115 :: d116 :: d117 :: d118 :: d119 :: d120 :: d121 :: d122 :: d123 :: d124 :: d125 :: d126 :: d127 :: d128 :: d129 :: d130 :: d131 :: d132 :: d133 :: d134 :: d135 :: d136 :: d137 :: d138 :: d139 :: d140 :: d141 :: d142 :: d143 :: d144 :: d145 :: d146 :: d147 :: d148 :: d149 :: d150 :: d151 :: d152 :: d153 :: d154 :: d155 :: d156 :: d157 :: d158 :: d159 :: d160 :: d161 :: d162 :: d163 :: d164 :: d165 :: d166 :: d167 :: d168 :: d169 :: d170 :: d171 :: d172 :: d173 :: d174 :: d175 :: d176 :: d177 :: d178 :: d179 :: d180 :: d181 :: d182 :: d183 :: d184 :: d185 :: d186 :: d187 :: d188 :: d189 :: d190 :: d191 :: d192 :: d193 :: d194 :: d195 :: d196 :: d197 :: d198 :: d199 :: d200 :: d201 :: d202 :: d203 :: d204 :: d205 :: c206 :: c207 :: c208 :: c209 :: c210 :: c211 :: c212 :: c213 :: c214 :: c215 :: c216 :: c217 :: c218 :: c219 :: c220 :: c221 :: c222 :: c223 :: c224 :: c225 :: c226 :: c227 :: c228 :: c229 :: c230 :: c231 :: c232 :: c233 :: c234 :: [])), []⟩ w') :
    Code.wp Try.prog ((Try.f45.body.bind (blkOf 6)).getD .skip) Q0 ⟨(List.toArray (c0 :: c1 :: c2 :: .slice (some ⟨gt, 0, none⟩) 64 64 :: c4 :: c5 :: c6 :: .pointer (some ⟨gw, 0, none⟩) :: c8 :: c9 :: c10 :: c11 :: c12 :: .slice (some ⟨g0, 0, none⟩) 8 cap0 :: .int .i64 0 :: c15 :: c16 :: c17 :: c18 :: c19 :: c20 :: c21 :: c22 :: c23 :: c24 :: c25 :: c26 :: c27 :: c28 :: c29 :: c30 :: c31 :: c32 :: c33 :: c34 :: c35 :: c36 :: c37 :: c38 :: c39 :: c40 :: c41 :: c42 :: c43 :: c44 :: c45 :: c46 :: c47 :: c48 :: c49 :: c50 :: c51 :: c52 :: c53 :: c54 :: c55 :: c56 :: c57 :: c58 :: c59 :: c60 :: c61 :: c62 :: c63 :: c64 :: c65 :: c66 :: c67 :: c68 :: c69 :: c70 :: c71 :: c72 :: c73 :: c74 :: c75 :: c76 :: c77 :: c78 :: c79 :: c80 :: c81 :: c82 :: c83 :: c84 :: c85 :: c86 :: c87 :: c88 :: c89 :: c90 :: c91 :: c92 :: c93 :: c94 :: c95 :: c96 :: c97 :: c98 :: c99 :: c100 :: c101 :: c102 :: c103 :: c104 :: c105 :: c106 :: c107 :: c108 :: c109 :: c110 :: c111 :: c112 :: c113 :: c114 :: c115 :: c116 :: c117 :: c118 :: c119 :: c120 :: c121 :: c122 :: c123 :: c124 :: c125 :: c126 :: c127 :: c128 :: c129 :: c130 :: c131 :: c132 :: c133 :: c134 :: c135 :: c136 :: c137 :: c138 :: c139 :: c140 :: c141 :: c142 :: c143 :: c144 :: c145 :: c146 :: c147 :: c148 :: c149 :: c150 :: c151 :: c152 :: c153 :: c154 :: c155 :: c156 :: c157 :: c158 :: c159 :: c160 :: c161 :: c162 :: c163 :: c164 :: c165 :: c166 :: c167 :: c168 :: c169 :: c170 :: c171 :: c172 :: c173 :: c174 :: c175 :: c176 :: c177 :: c178 :: c179 :: c180 :: c181 :: c182 :: c183 :: c184 :: c185 :: c186 :: c187 :: c188 :: c189 :: c190 :: c191 :: c192 :: c193 :: c194 :: c195 :: c196 :: c197 :: c198 :: c199 :: c200 :: c201 :: c202 :: c203 :: c204 :: c205 :: c206 :: c207 :: c208 :: c209 :: c210 :: c211 :: c212 :: c213 :: c214 :: c215 :: c216 :: c217 :: c218 :: c219 :: c220 :: c221 :: c222 :: c223 :: c224 :: c225 :: c226 :: c227 :: c228 :: c229 :: c230 :: c231 :: c232 :: c233 :: c234 :: [])), []⟩ w := by
  conv => arg 2; whnf
  obtain ⟨xa, xb, xc, xd, xe, xf, xg, xh⟩ := s
  have HX : Hid (∀ (d14 d15 d16 d17 d18 d107 d108 d109 d110 d111 d112 d113 d114 d115 d116 d117 d118 d119 d120 d121 d122 d123 d124 d125 d126 d127 d128 d129 d130 d131 d132 d133 d134 d135 d136 d137 d138 d139 d140 d141 d142 d143 d144 d145 d146 d147 d148 d149 d150 d151 d152 d153 d154 d155 d156 d157 d158 d159 d160 d161 d162 d163 d164 d165 d166 d167 d168 d169 d170 d171 d172 d173 d174 d175 d176 d177 d178 d179 d180 d181 d182 d183 d184 d185 d186 d187 d188 d189 d190 d191 d192 d193 d194 d195 d196 d197 d198 d199 d200 d201 d202 d203 d204 d205 : Value) (g cap : Nat) (w' : World), w'.rangeAt g 0 (cells32 (rnds ks ws 64 ⟨xa, xb, xc, xd, xe, xf, xg, xh⟩).list) → (g = g0 ∨ w.heap.size ≤ g) → Below w.heap.size w w' → Q0 (.exit 6) ⟨(List.toArray (c0 :: c1 :: c2 :: .slice (some ⟨gt, 0, none⟩) 64 64 :: c4 :: c5 :: c6 :: .pointer (some ⟨gw, 0, none⟩) :: c8 :: c9 :: c10 :: c11 :: c12 :: .slice (some ⟨g, 0, none⟩) 8 cap :: d14 :: d15 :: d16 :: d17 :: d18 :: c19 :: c20 :: c21 :: c22 :: c23 :: c24 :: c25 :: c26 :: c27 :: c28 :: c29 :: c30 :: c31 :: c32 :: c33 :: c34 :: c35 :: c36 :: c37 :: c38 :: c39 :: c40 :: c41 :: c42 :: c43 :: c44 :: c45 :: c46 :: c47 :: c48 :: c49 :: c50 :: c51 :: c52 :: c53 :: c54 :: c55 :: c56 :: c57 :: c58 :: c59 :: c60 :: c61 :: c62 :: c63 :: c64 :: c65 :: c66 :: c67 :: c68 :: c69 :: c70 :: c71 :: c72 :: c73 :: c74 :: c75 :: c76 :: c77 :: c78 :: c79 :: c80 :: c81 :: c82 :: c83 :: c84 :: c85 :: c86 :: c87 :: c88 :: c89 :: c90 :: c91 :: c92 :: c93 :: c94 :: c95 :: c96 :: c97 :: c98 :: c99 :: c100 :: c101 :: c102 :: c103 :: c104 :: c105 :: c106 :: d107 :: d108 :: d109 :: d110 :: d111 :: d112 :: d113 :: d114 :: d115 :: d116 :: d117 :: d118 :: d119 :: d120 :: d121 :: d122 :: d123 :: d124 :: d125 :: d126 :: d127 :: d128 :: d129 :: d130 :: d131 :: d132 :: d133 :: d134 :: d135 :: d136 :: d137 :: d138 :: d139 :: d140 :: d141 :: d142 :: d143 :: d144 :: d145 :: d146 :: d147 :: d148 :: d149 :: d150 :: d151 :: d152 :: d153 :: d154 :: d155 :: d156 :: d157 :: d158 :: d159 :: d160 :: d161 :: d162 :: d163 :: d164 :: d165 :: d166 :: d167 :: d168 :: d169 :: d170 :: d171 :: d172 :: d173 :: d174 :: d175 :: d176 :: d177 :: d178 :: d179 :: d180 :: d181 :: d182 :: d183 :: d184 :: d185 :: d186 :: d187 :: d188 :: d189 :: d190 :: d191 :: d192 :: d193 :: d194 :: d195 :: d196 :: d197 :: d198 :: d199 :: d200 :: d201 :: d202 :: d203 :: d204 :: d205 :: c206 :: c207 :: c208 :: c209 :: c210 :: c211 :: c212 :: c213 :: c214 :: c215 :: c216 :: c217 :: c218 :: c219 :: c220 :: c221 :: c222 :: c223 :: c224 :: c225 :: c226 :: c227 :: c228 :: c229 :: c230 :: c231 :: c232 :: c233 :: c234 :: [])), []⟩ w') := hexit
  clear hexit
  go_loopw [13, 14] (fun v i wr => ∃ (t g cap : Nat) (a b c d e f g' hh : Int), t ≤ 64 ∧ i = .int .i64 t ∧ v = .slice (some ⟨g, 0, none⟩) 8 cap ∧ Hid (rnds ks ws t ⟨xa, xb, xc, xd, xe, xf, xg, xh⟩ = ⟨a, b, c, d, e, f, g', hh⟩) ∧ wr.rangeAt g 0 (cells32 [a, b, c, d, e, f, g', hh]) ∧ g < wr.heap.size ∧ (g = g0 ∨ w.heap.size ≤ g) ∧ Below w.heap.size w wr) (fun _ i _ => 64 - (intOf i).toNat)
  case atStart => exact ⟨0, g0, cap0, _, _, _, _, _, _, _, _, by omega, rfl, rfl, rfl, hv, hv1, Or.inl rfl, Below.refl _ _⟩
  case round =>
    obtain ⟨t, g, cap, a, b, c, d, e, f, g', hh, htl, rfl, rfl, HR, hv, hg, hgo, hbel⟩ := hrel
    by_cases hlt : t < 64
    · clear HX
      have hok : (⟨a, b, c, d, e, f, g', hh⟩ : S8).ok := by rw [← HR.out]; exact rnds_ok _ _ _ hs
      obtain ⟨wa, wb, wc, wd, we, wf, wg, wh⟩ := hok
      simp only at wa wb wc wd we wf wg wh
      have v0 : wr.cell? ⟨g, 0, none⟩ = some (.int .u32 a) := hv 0 _ rfl
      have v1 : wr.cell? ⟨g, 1, none⟩ = some (.int .u32 b) := hv 1 _ rfl
      have v2 : wr.cell? ⟨g, 2, none⟩ = some (.int .u32 c) := hv 2 _ rfl
      have v3 : wr.cell? ⟨g, 3, none⟩ = some (.int .u32 d) := hv 3 _ rfl
      have v4 : wr.cell? ⟨g, 4, none⟩ = some (.int .u32 e) := hv 4 _ rfl
      have v5 : wr.cell? ⟨g, 5, none⟩ = some (.int .u32 f) := hv 5 _ rfl
      have v6 : wr.cell? ⟨g, 6, none⟩ = some (.int .u32 g') := hv 6 _ rfl
      have v7 : wr.cell? ⟨g, 7, none⟩ = some (.int .u32 hh) := hv 7 _ rfl
      have hkt : wr.cell? ⟨gt, t, none⟩ = some (.int .u32 (ks.getD t 0)) := by have := range_below ht hbel ht1 t _ (cells32_at ks t (by omega)); rwa [Nat.zero_add] at this
      have hwt : wr.cell? ⟨gw, t, none⟩ = some (.int .u32 (ws.getD t 0)) := by have := range_below hw hbel hw1 t _ (cells32_at ws t (by omega)); rwa [Nat.zero_add] at this
      have HS : Hid (rnds ks ws (t + 1) ⟨xa, xb, xc, xd, xe, xf, xg, xh⟩ = rnd (ks.getD t 0) (ws.getD t 0) ⟨a, b, c, d, e, f, g', hh⟩) := by
        show rnd _ _ _ = _; rw [HR.out]
      have hz : g < wr.heap.size := hg
      have t0 : (0 : Int) ≤ (t : Int) := by omega
      have t64 : (t : Int) < 64 := by omega
      have e1 := bs1_ref we
      have e2 := ch_ref we wf wg
      have e3 := bs0_ref wa
      have e4 := maj_ref wa wb wc
      have e5 : IntKind.u32.wrap (4294967295 - e) = 4294967295 - e := IntWalk.u32_in _ ⟨by have := we.2; omega, by have := we.1; omega⟩
      clear hs ht hw hv ht1 hw1 hv1 HR hgo
      generalize ks.getD t 0 = kt at *
      generalize ws.getD t 0 = wt at *
      go_wp2_with fail
      go_region_held3 (fun w' => w'.cell? ⟨g, 0, none⟩ = some (.int .u32 a) ∧ w'.cell? ⟨g, 4, none⟩ = some (.int .u32 e)) (go_keep) (fail)
      go_wp2_with fail
      go_region_held3 (fun w' => w'.cell? ⟨g, 7, none⟩ = some (.int .u32 hh) ∧ w'.cell? ⟨g, 5, none⟩ = some (.int .u32 f) ∧ w'.cell? ⟨g, 6, none⟩ = some (.int .u32 g') ∧ w'.cell? ⟨gt, t, none⟩ = some (.int .u32 kt) ∧ w'.cell? ⟨gw, t, none⟩ = some (.int .u32 wt)) (go_keep) (first | (go_at_call 55; refine (ref_left _ _ _ we.1 we.2).mono ?_; rintro e w' ⟨rfl, rfl⟩))
      have H1 : Hid (IntKind.u32.wrap (IntKind.u32.wrap (IntKind.u32.wrap (IntKind.u32.wrap (hh + bs1 e) + chI e f g') + kt) + wt) = t1I kt wt ⟨a, b, c, d, e, f, g', hh⟩) := by
        simp only [IntKind.wrap_u32, Hid]; rfl
      rw [H1.out]
      obtain ⟨T1, hT1⟩ : ∃ T1, T1 = t1I kt wt ⟨a, b, c, d, e, f, g', hh⟩ := ⟨_, rfl⟩
      rw [← hT1]
      have HT1 : Hid (T1 = t1I kt wt ⟨a, b, c, d, e, f, g', hh⟩) := hT1
      clear hT1 H1
      go_wp2_with fail
      go_region_held3 (fun w' => w'.cell? ⟨g, 1, none⟩ = some (.int .u32 b) ∧ w'.cell? ⟨g, 2, none⟩ = some (.int .u32 c)) (go_keep) (first | (go_at_call 55; refine (ref_left _ _ _ wa.1 wa.2).mono ?_; rintro e w' ⟨rfl, rfl⟩))
      have H2 : Hid (IntKind.u32.wrap (bs0 a + majI a b c) = t2I ⟨a, b, c, d, e, f, g', hh⟩) := by
        simp only [IntKind.wrap_u32, Hid]; rfl
      rw [H2.out]
      obtain ⟨T2, hT2⟩ : ∃ T2, T2 = t2I ⟨a, b, c, d, e, f, g', hh⟩ := ⟨_, rfl⟩
      rw [← hT2]
      have HT2 : Hid (T2 = t2I ⟨a, b, c, d, e, f, g', hh⟩) := hT2
      clear hT2 H2 e1 e2 e3 e4 e5
      go_wp2_with fail
      go_region_held3 (fun w' => w'.cell? ⟨g, 0, none⟩ = some (.int .u32 a) ∧ w'.cell? ⟨g, 1, none⟩ = some (.int .u32 b) ∧ w'.cell? ⟨g, 2, none⟩ = some (.int .u32 c) ∧ w'.cell? ⟨g, 3, none⟩ = some (.int .u32 d) ∧ w'.cell? ⟨g, 4, none⟩ = some (.int .u32 e) ∧ w'.cell? ⟨g, 5, none⟩ = some (.int .u32 f) ∧ w'.cell? ⟨g, 6, none⟩ = some (.int .u32 g')) (go_keep) (fail)
      go_wp2
      go_roundw
      case rel =>
        refine ⟨t + 1, wr.heap.size, 8, (T1 + T2) % 4294967296, a, b, c, (d + T1) % 4294967296, e, f, g', by omega, by go_num, rfl, ?_, ?_, ?_, Or.inr hbel.size, (hbel.alloc hbel.size _).drew.drew.drew.drew⟩
        · rw [Hid, HS.out, HT1.out, HT2.out]; rfl
        · exact (RowIs.new wr 70 (cells32 [(T1 + T2) % 4294967296, a, b, c, (d + T1) % 4294967296, e, f, g'])).drew.drew.drew.drew.range (by rw [List.drop_zero, List.take_length])
        · show wr.heap.size < (wr.alloc _).heap.size
          simp
      case measure => simp [intOf]; omega
    · have ht64 : t = 64 := by omega
      have HF : Hid (rnds ks ws 64 ⟨xa, xb, xc, xd, xe, xf, xg, xh⟩ = ⟨a, b, c, d, e, f, g', hh⟩) := by rw [← ht64]; exact HR
      clear HR ht64 htl
      go_wp2
      exact HX.out _ _ _ _ _ _ _ _ _ _ _ _ _ _ _ _ _ _ _ _ _ _ _ _ _ _ _ _ _ _ _ _ _ _ _ _ _ _ _ _ _ _ _ _ _ _ _ _ _ _ _ _ _ _ _ _ _ _ _ _ _ _ _ _ _ _ _ _ _ _ _ _ _ _ _ _ _ _ _ _ _ _ _ _ _ _ _ _ _ _ _ _ _ _ _ _ _ _ _ _ _ _ _ _ g cap _ (by rw [HF.out]; exact hv) hgo hbel

end Go.Proofs.Ytlhlpcfjoccgcaa
