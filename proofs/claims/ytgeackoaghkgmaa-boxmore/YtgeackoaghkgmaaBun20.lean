/-
  Parts of this proof, one behind the other: RefI, RefJ, RefH.
-/
import Derived.Test.YtgeackoaghkgmaaBun19
import Derived.Test.YtgeackoaghkgmaaBun15
import Derived.Test.YtgeackoaghkgmaaBun18
import Derived.Test.YtgeackoaghkgmaaBun5
import Derived.Deep.AppendLies
import Derived.Deep.RegionHeld3

/-
  The inner loop of the reference's Block (the loop in block 6).
-/
namespace Go.Proofs.Ytgeackoaghkgmaa
open Go.RowKit
set_option linter.unusedVariables false
set_option maxRecDepth 100000

set_option maxRecDepth 100000 in
set_option maxHeartbeats 4000000 in
theorem ref_inner (c0 c1 c2 c3 c4 c5 c6 c7 c8 c9 c12 c14 c15 c16 c17 c18 c19 c20 c21 c22 c23 c24 c25 c26 c27 c28 c29 c30 c31 c32 c33 c34 c35 c36 c37 c38 c39 c40 c41 c42 c43 c44 c45 c46 c47 c48 c49 c50 c51 c52 c53 c54 c55 c56 c57 c58 c59 c60 c61 c62 c63 c64 c65 c66 c67 c68 c69 c70 c71 c72 c73 c74 c75 c76 c77 c78 c79 c80 c81 c82 c83 c84 c85 c86 c87 c88 c89 c90 c91 c92 c93 c94 c95 c96 c97 c98 c99 c100 c101 c102 c103 c104 c105 c106 c107 c108 c109 c110 c111 c112 c113 c114 c115 c116 c117 c118 c119 c120 c121 c122 c123 c124 c125 c126 c127 c128 c129 c130 c131 c132 c133 c134 c135 c136 c137 c138 c139 c140 c141 c142 c143 c144 c145 c146 : Value) (Q0 : Exit → Act → World → Prop) (B gw cap M : Nat) (d : List Int) (W w : World) (hl : d.length = 16) (hw : allW d) (hBg : B ≤ gw) (hM : gw < M) (T1 : ∀ k, k < 8 → RowIs W (M + k) 3 (tabRow k)) (T2 : RowIs W (M + 8) 59 (tabAll M))
    (hown : w.ownsRow B 30 1 (.slice (some ⟨gw, 0, none⟩) 16 cap) 16 (cells32 d)) (hup : Upon gw W w)
    (hQ0 : ∀ c a d v w, Q0 (.panic c) (a.put d v) w → Q0 (.panic c) a w)
    (hexit : ∀ (d13 d14 d69 d70 d71 d72 d73 d74 d75 d76 d77 d78 d79 d80 d81 d82 d83 d84 d85 d86 d87 d88 d89 d90 d91 d92 d93 d94 d95 d96 d97 d98 d99 d100 d101 d102 d103 d104 d105 d106 d107 d108 d109 d110 d111 d112 d113 d114 d115 d116 d117 d118 d119 d120 d121 d122 d123 d124 d125 d126 d127 d128 : Value) (w' : World), w'.ownsRow B 30 1 (.slice (some ⟨gw, 0, none⟩) 16 cap) 16 (cells32 (dblTo d 8)) → Upon gw W w' → Q0 (.exit 6) ⟨(List.toArray (c0 :: c1 :: c2 :: c3 :: c4 :: c5 :: c6 :: c7 :: c8 :: c9 :: .slice (some ⟨gw, 0, none⟩) 16 cap :: .slice (some ⟨M + 8, 0, none⟩) 8 8 :: c12 :: d13 :: d14 :: c15 :: c16 :: c17 :: c18 :: c19 :: c20 :: c21 :: c22 :: c23 :: c24 :: c25 :: c26 :: c27 :: c28 :: c29 :: c30 :: c31 :: c32 :: c33 :: c34 :: c35 :: c36 :: c37 :: c38 :: c39 :: c40 :: c41 :: c42 :: c43 :: c44 :: c45 :: c46 :: c47 :: c48 :: c49 :: c50 :: c51 :: c52 :: c53 :: c54 :: c55 :: c56 :: c57 :: c58 :: c59 :: c60 :: c61 :: c62 :: c63 :: c64 :: c65 :: c66 :: c67 :: c68 :: d69 :: d70 :: d71 :: d72 :: d73 :: d74 :: d75 :: d76 :: d77 :: d78 :: d79 :: d80 :: d81 :: d82 :: d83 :: d84 :: d85 :: d86 :: d87 :: d88 :: d89 :: d90 :: d91 :: d92 :: d93 :: d94 :: d95 :: d96 :: d97 :: d98 :: d99 :: d100 :: d101 :: d102 :: d103 :: d104 :: d105 :: d106 :: d107 :: d108 :: d109 :: d110 :: d111 :: d112 :: d113 :: d114 :: d115 :: d116 :: d117 :: d118 :: d119 :: d120 :: d121 :: d122 :: d123 :: d124 :: d125 :: d126 :: d127 :: d128 :: c129 :: c130 :: c131 :: c132 :: c133 :: c134 :: c135 :: c136 :: c137 :: c138 :: c139 :: c140 :: c141 :: c142 :: c143 :: c144 :: c145 :: c146 :: [])), []⟩ w') :
    Code.wp Try.prog ((Try.f20.body.bind (blkOf 6)).getD .skip) Q0 ⟨(List.toArray (c0 :: c1 :: c2 :: c3 :: c4 :: c5 :: c6 :: c7 :: c8 :: c9 :: .slice (some ⟨gw, 0, none⟩) 16 cap :: .slice (some ⟨M + 8, 0, none⟩) 8 8 :: c12 :: .int .i64 0 :: c14 :: c15 :: c16 :: c17 :: c18 :: c19 :: c20 :: c21 :: c22 :: c23 :: c24 :: c25 :: c26 :: c27 :: c28 :: c29 :: c30 :: c31 :: c32 :: c33 :: c34 :: c35 :: c36 :: c37 :: c38 :: c39 :: c40 :: c41 :: c42 :: c43 :: c44 :: c45 :: c46 :: c47 :: c48 :: c49 :: c50 :: c51 :: c52 :: c53 :: c54 :: c55 :: c56 :: c57 :: c58 :: c59 :: c60 :: c61 :: c62 :: c63 :: c64 :: c65 :: c66 :: c67 :: c68 :: c69 :: c70 :: c71 :: c72 :: c73 :: c74 :: c75 :: c76 :: c77 :: c78 :: c79 :: c80 :: c81 :: c82 :: c83 :: c84 :: c85 :: c86 :: c87 :: c88 :: c89 :: c90 :: c91 :: c92 :: c93 :: c94 :: c95 :: c96 :: c97 :: c98 :: c99 :: c100 :: c101 :: c102 :: c103 :: c104 :: c105 :: c106 :: c107 :: c108 :: c109 :: c110 :: c111 :: c112 :: c113 :: c114 :: c115 :: c116 :: c117 :: c118 :: c119 :: c120 :: c121 :: c122 :: c123 :: c124 :: c125 :: c126 :: c127 :: c128 :: c129 :: c130 :: c131 :: c132 :: c133 :: c134 :: c135 :: c136 :: c137 :: c138 :: c139 :: c140 :: c141 :: c142 :: c143 :: c144 :: c145 :: c146 :: [])), []⟩ w := by
  conv => arg 2; whnf
  have HX : Hid (∀ (d13 d14 d69 d70 d71 d72 d73 d74 d75 d76 d77 d78 d79 d80 d81 d82 d83 d84 d85 d86 d87 d88 d89 d90 d91 d92 d93 d94 d95 d96 d97 d98 d99 d100 d101 d102 d103 d104 d105 d106 d107 d108 d109 d110 d111 d112 d113 d114 d115 d116 d117 d118 d119 d120 d121 d122 d123 d124 d125 d126 d127 d128 : Value) (w' : World), w'.ownsRow B 30 1 (.slice (some ⟨gw, 0, none⟩) 16 cap) 16 (cells32 (dblTo d 8)) → Upon gw W w' → Q0 (.exit 6) ⟨(List.toArray (c0 :: c1 :: c2 :: c3 :: c4 :: c5 :: c6 :: c7 :: c8 :: c9 :: .slice (some ⟨gw, 0, none⟩) 16 cap :: .slice (some ⟨M + 8, 0, none⟩) 8 8 :: c12 :: d13 :: d14 :: c15 :: c16 :: c17 :: c18 :: c19 :: c20 :: c21 :: c22 :: c23 :: c24 :: c25 :: c26 :: c27 :: c28 :: c29 :: c30 :: c31 :: c32 :: c33 :: c34 :: c35 :: c36 :: c37 :: c38 :: c39 :: c40 :: c41 :: c42 :: c43 :: c44 :: c45 :: c46 :: c47 :: c48 :: c49 :: c50 :: c51 :: c52 :: c53 :: c54 :: c55 :: c56 :: c57 :: c58 :: c59 :: c60 :: c61 :: c62 :: c63 :: c64 :: c65 :: c66 :: c67 :: c68 :: d69 :: d70 :: d71 :: d72 :: d73 :: d74 :: d75 :: d76 :: d77 :: d78 :: d79 :: d80 :: d81 :: d82 :: d83 :: d84 :: d85 :: d86 :: d87 :: d88 :: d89 :: d90 :: d91 :: d92 :: d93 :: d94 :: d95 :: d96 :: d97 :: d98 :: d99 :: d100 :: d101 :: d102 :: d103 :: d104 :: d105 :: d106 :: d107 :: d108 :: d109 :: d110 :: d111 :: d112 :: d113 :: d114 :: d115 :: d116 :: d117 :: d118 :: d119 :: d120 :: d121 :: d122 :: d123 :: d124 :: d125 :: d126 :: d127 :: d128 :: c129 :: c130 :: c131 :: c132 :: c133 :: c134 :: c135 :: c136 :: c137 :: c138 :: c139 :: c140 :: c141 :: c142 :: c143 :: c144 :: c145 :: c146 :: [])), []⟩ w') := hexit
  clear hexit
  have HQ : Hid (∀ c a d v w, Q0 (.panic c) (a.put d v) w → Q0 (.panic c) a w) := hQ0
  clear hQ0
  go_loopw [13] (fun i wr => ∃ k : Nat, k ≤ 8 ∧ i = .int .i64 k ∧ wr.ownsRow B 30 1 (.slice (some ⟨gw, 0, none⟩) 16 cap) 16 (cells32 (dblTo d k)) ∧ Upon gw W wr) (fun i _ => 8 - (intOf i).toNat)
  case atStart => exact ⟨0, by omega, rfl, hown, hup⟩
  case round =>
    clear hown hup
    obtain ⟨k, hk8, rfl, ow, up⟩ := hrel
    by_cases hlt : k < 8
    · clear HX
      have hcell : wr.cell? ⟨M + 8, k, none⟩ = some (.slice (some ⟨M + k, 0, none⟩) 4 4) := (up.row T2 (by omega)).cellAt (tabAll_at M k hlt)
      have rk := up.row (T1 k hlt) (by omega)
      have k0 : (0 : Int) ≤ (k : Int) := by omega
      have k8 : (k : Int) < 8 := by omega
      have p0 := place_lt k hlt 0 (by decide)
      have p1 := place_lt k hlt 1 (by decide)
      have p2 := place_lt k hlt 2 (by decide)
      have p3 := place_lt k hlt 3 (by decide)
      have q0 := rk.cellAt (tabRow_at k 0 (by decide))
      have q1 := rk.cellAt (tabRow_at k 1 (by decide))
      have q2 := rk.cellAt (tabRow_at k 2 (by decide))
      have q3 := rk.cellAt (tabRow_at k 3 (by decide))
      have HN : Hid (dblTo d (k + 1) = qAt (dblTo d k) (place k 0) (place k 1) (place k 2) (place k 3)) := rfl
      have hdl : (dblTo d k).length = 16 := by rw [dblTo_len, hl]
      have hdw := dblTo_w hw k
      generalize dblTo d k = s at *
      generalize place k 0 = a0 at *
      generalize place k 1 = a1 at *
      generalize place k 2 = a2 at *
      generalize place k 3 = a3 at *
      go_wp2_with fail
      refine ref_regionL _ _ _ _ _ _ _ _ _ _ _ _ _ _ _ _ _ _ _ _ _ _ _ _ _ _ _ _ _ _ _ _ _ _ _ _ _ _ _ _ _ _ _ _ _ _ _ _ _ _ _ _ _ _ _ _ _ _ _ _ _ _ _ _ _ _ _ _ _ _ _ _ _ _ _ _ _ _ _ _ _ _ _ _ _ _ _ _ _ _ _ _ _ _ _ _ _ _ _ _ _ _ _ _ _ _ _ _ _ _ _ _ _ _ _ _ _ _ _ _ _ _ _ _ _ _ _ _ _ _ _ _ _ _ _ _ _ _ _ _ _ _ _ _ _ (by kernel_rfl) (by kernel_rfl) (by intro c a d v w h; exact HQ.out c a d v w h) B gw cap (M + k) a0 a1 a2 a3 s wr p0 p1 p2 p3 hdl hdw (by omega) hBg ow q0 q1 q2 q3 ?_
      intro e79 e80 e81 e82 e83 e84 e85 e86 e87 e88 e89 e90 e91 e92 e93 e94 e95 e96 e97 e98 e99 e100 e101 e102 e103 e104 e105 e106 e107 e108 e109 e110 e111 e112 e113 e114 e115 e116 e117 e118 e119 e120 e121 e122 e123 e124 e125 e126 e127 e128 w5 ow5 up5
      rw [← HN.out] at ow5
      have up6 := up.trans up5
      clear ow up up5 rk q0 q1 q2 q3 hcell
      go_wp2_with fail
      go_roundw
      case rel => exact ⟨k + 1, by omega, by go_num, ow5, up6⟩
      case measure => simp [intOf]; omega
    · have hk8' : k = 8 := by omega
      rw [hk8'] at ow
      clear hk8' hk8
      go_wp2
      exact HX.out _ _ _ _ _ _ _ _ _ _ _ _ _ _ _ _ _ _ _ _ _ _ _ _ _ _ _ _ _ _ _ _ _ _ _ _ _ _ _ _ _ _ _ _ _ _ _ _ _ _ _ _ _ _ _ _ _ _ _ _ _ _ _ ow up

end Go.Proofs.Ytgeackoaghkgmaa

/-
  The outer loop of the reference's Block (the loop in block 4).
-/
namespace Go.Proofs.Ytgeackoaghkgmaa
open Go.RowKit
set_option linter.unusedVariables false
set_option maxRecDepth 100000

set_option maxRecDepth 100000 in
set_option maxHeartbeats 4000000 in
theorem ref_outer (c0 c1 c2 c3 c4 c5 c6 c7 c8 c9 c13 c14 c15 c16 c17 c18 c19 c20 c21 c22 c23 c24 c25 c26 c27 c28 c29 c30 c31 c32 c33 c34 c35 c36 c37 c38 c39 c40 c41 c42 c43 c44 c45 c46 c47 c48 c49 c50 c51 c52 c53 c54 c55 c56 c57 c58 c59 c60 c61 c62 c63 c64 c65 c66 c67 c68 c69 c70 c71 c72 c73 c74 c75 c76 c77 c78 c79 c80 c81 c82 c83 c84 c85 c86 c87 c88 c89 c90 c91 c92 c93 c94 c95 c96 c97 c98 c99 c100 c101 c102 c103 c104 c105 c106 c107 c108 c109 c110 c111 c112 c113 c114 c115 c116 c117 c118 c119 c120 c121 c122 c123 c124 c125 c126 c127 c128 c129 c130 c131 c132 c133 c134 c135 c136 c137 c138 c139 c140 c141 c142 c143 c144 c145 c146 : Value) (Q0 : Exit → Act → World → Prop) (B gw cap M : Nat) (f : List Int) (W w : World) (hl : f.length = 16) (hw : allW f) (hBg : B ≤ gw) (hM : gw < M) (T1 : ∀ k, k < 8 → RowIs W (M + k) 3 (tabRow k)) (T2 : RowIs W (M + 8) 59 (tabAll M))
    (hown : w.ownsRow B 30 1 (.slice (some ⟨gw, 0, none⟩) 16 cap) 16 (cells32 f)) (hup : Upon gw W w)
    (hQ0 : ∀ c a d v w, Q0 (.panic c) (a.put d v) w → Q0 (.panic c) a w)
    (hexit : ∀ (d12 d13 d14 d65 d66 d67 d68 d69 d70 d71 d72 d73 d74 d75 d76 d77 d78 d79 d80 d81 d82 d83 d84 d85 d86 d87 d88 d89 d90 d91 d92 d93 d94 d95 d96 d97 d98 d99 d100 d101 d102 d103 d104 d105 d106 d107 d108 d109 d110 d111 d112 d113 d114 d115 d116 d117 d118 d119 d120 d121 d122 d123 d124 d125 d126 d127 d128 : Value) (w' : World), w'.ownsRow B 30 1 (.slice (some ⟨gw, 0, none⟩) 16 cap) 16 (cells32 (dbls f 10)) → Upon gw W w' → Q0 (.exit 4) ⟨(List.toArray (c0 :: c1 :: c2 :: c3 :: c4 :: c5 :: c6 :: c7 :: c8 :: c9 :: .slice (some ⟨gw, 0, none⟩) 16 cap :: .slice (some ⟨M + 8, 0, none⟩) 8 8 :: d12 :: d13 :: d14 :: c15 :: c16 :: c17 :: c18 :: c19 :: c20 :: c21 :: c22 :: c23 :: c24 :: c25 :: c26 :: c27 :: c28 :: c29 :: c30 :: c31 :: c32 :: c33 :: c34 :: c35 :: c36 :: c37 :: c38 :: c39 :: c40 :: c41 :: c42 :: c43 :: c44 :: c45 :: c46 :: c47 :: c48 :: c49 :: c50 :: c51 :: c52 :: c53 :: c54 :: c55 :: c56 :: c57 :: c58 :: c59 :: c60 :: c61 :: c62 :: c63 :: c64 :: d65 :: d66 :: d67 :: d68 :: d69 :: d70 :: d71 :: d72 :: d73 :: d74 :: d75 :: d76 :: d77 :: d78 :: d79 :: d80 :: d81 :: d82 :: d83 :: d84 :: d85 :: d86 :: d87 :: d88 :: d89 :: d90 :: d91 :: d92 :: d93 :: d94 :: d95 :: d96 :: d97 :: d98 :: d99 :: d100 :: d101 :: d102 :: d103 :: d104 :: d105 :: d106 :: d107 :: d108 :: d109 :: d110 :: d111 :: d112 :: d113 :: d114 :: d115 :: d116 :: d117 :: d118 :: d119 :: d120 :: d121 :: d122 :: d123 :: d124 :: d125 :: d126 :: d127 :: d128 :: c129 :: c130 :: c131 :: c132 :: c133 :: c134 :: c135 :: c136 :: c137 :: c138 :: c139 :: c140 :: c141 :: c142 :: c143 :: c144 :: c145 :: c146 :: [])), []⟩ w') :
    Code.wp Try.prog ((Try.f20.body.bind (blkOf 4)).getD .skip) Q0 ⟨(List.toArray (c0 :: c1 :: c2 :: c3 :: c4 :: c5 :: c6 :: c7 :: c8 :: c9 :: .slice (some ⟨gw, 0, none⟩) 16 cap :: .slice (some ⟨M + 8, 0, none⟩) 8 8 :: .int .i64 0 :: c13 :: c14 :: c15 :: c16 :: c17 :: c18 :: c19 :: c20 :: c21 :: c22 :: c23 :: c24 :: c25 :: c26 :: c27 :: c28 :: c29 :: c30 :: c31 :: c32 :: c33 :: c34 :: c35 :: c36 :: c37 :: c38 :: c39 :: c40 :: c41 :: c42 :: c43 :: c44 :: c45 :: c46 :: c47 :: c48 :: c49 :: c50 :: c51 :: c52 :: c53 :: c54 :: c55 :: c56 :: c57 :: c58 :: c59 :: c60 :: c61 :: c62 :: c63 :: c64 :: c65 :: c66 :: c67 :: c68 :: c69 :: c70 :: c71 :: c72 :: c73 :: c74 :: c75 :: c76 :: c77 :: c78 :: c79 :: c80 :: c81 :: c82 :: c83 :: c84 :: c85 :: c86 :: c87 :: c88 :: c89 :: c90 :: c91 :: c92 :: c93 :: c94 :: c95 :: c96 :: c97 :: c98 :: c99 :: c100 :: c101 :: c102 :: c103 :: c104 :: c105 :: c106 :: c107 :: c108 :: c109 :: c110 :: c111 :: c112 :: c113 :: c114 :: c115 :: c116 :: c117 :: c118 :: c119 :: c120 :: c121 :: c122 :: c123 :: c124 :: c125 :: c126 :: c127 :: c128 :: c129 :: c130 :: c131 :: c132 :: c133 :: c134 :: c135 :: c136 :: c137 :: c138 :: c139 :: c140 :: c141 :: c142 :: c143 :: c144 :: c145 :: c146 :: [])), []⟩ w := by
  conv => arg 2; whnf
  have HX : Hid (∀ (d12 d13 d14 d65 d66 d67 d68 d69 d70 d71 d72 d73 d74 d75 d76 d77 d78 d79 d80 d81 d82 d83 d84 d85 d86 d87 d88 d89 d90 d91 d92 d93 d94 d95 d96 d97 d98 d99 d100 d101 d102 d103 d104 d105 d106 d107 d108 d109 d110 d111 d112 d113 d114 d115 d116 d117 d118 d119 d120 d121 d122 d123 d124 d125 d126 d127 d128 : Value) (w' : World), w'.ownsRow B 30 1 (.slice (some ⟨gw, 0, none⟩) 16 cap) 16 (cells32 (dbls f 10)) → Upon gw W w' → Q0 (.exit 4) ⟨(List.toArray (c0 :: c1 :: c2 :: c3 :: c4 :: c5 :: c6 :: c7 :: c8 :: c9 :: .slice (some ⟨gw, 0, none⟩) 16 cap :: .slice (some ⟨M + 8, 0, none⟩) 8 8 :: d12 :: d13 :: d14 :: c15 :: c16 :: c17 :: c18 :: c19 :: c20 :: c21 :: c22 :: c23 :: c24 :: c25 :: c26 :: c27 :: c28 :: c29 :: c30 :: c31 :: c32 :: c33 :: c34 :: c35 :: c36 :: c37 :: c38 :: c39 :: c40 :: c41 :: c42 :: c43 :: c44 :: c45 :: c46 :: c47 :: c48 :: c49 :: c50 :: c51 :: c52 :: c53 :: c54 :: c55 :: c56 :: c57 :: c58 :: c59 :: c60 :: c61 :: c62 :: c63 :: c64 :: d65 :: d66 :: d67 :: d68 :: d69 :: d70 :: d71 :: d72 :: d73 :: d74 :: d75 :: d76 :: d77 :: d78 :: d79 :: d80 :: d81 :: d82 :: d83 :: d84 :: d85 :: d86 :: d87 :: d88 :: d89 :: d90 :: d91 :: d92 :: d93 :: d94 :: d95 :: d96 :: d97 :: d98 :: d99 :: d100 :: d101 :: d102 :: d103 :: d104 :: d105 :: d106 :: d107 :: d108 :: d109 :: d110 :: d111 :: d112 :: d113 :: d114 :: d115 :: d116 :: d117 :: d118 :: d119 :: d120 :: d121 :: d122 :: d123 :: d124 :: d125 :: d126 :: d127 :: d128 :: c129 :: c130 :: c131 :: c132 :: c133 :: c134 :: c135 :: c136 :: c137 :: c138 :: c139 :: c140 :: c141 :: c142 :: c143 :: c144 :: c145 :: c146 :: [])), []⟩ w') := hexit
  clear hexit
  have HQ : Hid (∀ c a d v w, Q0 (.panic c) (a.put d v) w → Q0 (.panic c) a w) := hQ0
  clear hQ0
  go_loopw [12] (fun i wr => ∃ n : Nat, n ≤ 10 ∧ i = .int .i64 n ∧ wr.ownsRow B 30 1 (.slice (some ⟨gw, 0, none⟩) 16 cap) 16 (cells32 (dbls f n)) ∧ Upon gw W wr) (fun i _ => 10 - (intOf i).toNat)
  case atStart => exact ⟨0, by omega, rfl, hown, hup⟩
  case round =>
    clear hown hup
    obtain ⟨n, hn10, rfl, ow, up⟩ := hrel
    by_cases hlt : n < 10
    · clear HX
      have n0 : (0 : Int) ≤ (n : Int) := by omega
      have n10 : (n : Int) < 10 := by omega
      have hdl : (dbls f n).length = 16 := by rw [dbls_len, hl]
      have hdw := dbls_w hw n
      have HD : Hid (dblTo (dbls f n) 8 = dbls f (n + 1)) := rfl
      generalize dbls f n = s at *
      go_wp2_with fail
      refine ref_inner _ _ _ _ _ _ _ _ _ _ _ _ _ _ _ _ _ _ _ _ _ _ _ _ _ _ _ _ _ _ _ _ _ _ _ _ _ _ _ _ _ _ _ _ _ _ _ _ _ _ _ _ _ _ _ _ _ _ _ _ _ _ _ _ _ _ _ _ _ _ _ _ _ _ _ _ _ _ _ _ _ _ _ _ _ _ _ _ _ _ _ _ _ _ _ _ _ _ _ _ _ _ _ _ _ _ _ _ _ _ _ _ _ _ _ _ _ _ _ _ _ _ _ _ _ _ _ _ _ _ _ _ _ _ _ _ _ _ _ _ _ _ _ _ _ B gw cap M s W wr hdl hdw hBg hM T1 T2 ow up (by intro c a d v w h; exact HQ.out c a d v w h) ?_
      intro e13 e14 e69 e70 e71 e72 e73 e74 e75 e76 e77 e78 e79 e80 e81 e82 e83 e84 e85 e86 e87 e88 e89 e90 e91 e92 e93 e94 e95 e96 e97 e98 e99 e100 e101 e102 e103 e104 e105 e106 e107 e108 e109 e110 e111 e112 e113 e114 e115 e116 e117 e118 e119 e120 e121 e122 e123 e124 e125 e126 e127 e128 w5 ow5 up5
      rw [HD.out] at ow5
      clear ow up
      go_wp2_with fail
      go_roundw
      case rel => exact ⟨n + 1, by omega, by go_num, ow5, up5⟩
      case measure => simp [intOf]; omega
    · have hn10' : n = 10 := by omega
      subst hn10'
      clear hn10 hlt
      go_wp2
      exact HX.out _ _ _ _ _ _ _ _ _ _ _ _ _ _ _ _ _ _ _ _ _ _ _ _ _ _ _ _ _ _ _ _ _ _ _ _ _ _ _ _ _ _ _ _ _ _ _ _ _ _ _ _ _ _ _ _ _ _ _ _ _ _ _ _ _ _ _ _ ow up

end Go.Proofs.Ytgeackoaghkgmaa

/-
  The contract of the reference's Block.
-/
namespace Go.Proofs.Ytgeackoaghkgmaa
open Go.RowKit
set_option linter.unusedVariables false
set_option maxRecDepth 100000

theorem info32 : (Try.prog.info? 30).map (fun i => (i.zero, i.size, i.bytes)) = some (some (.int .u32 0), 1, 4) := by kernel_rfl
theorem str_cat5 (a b : List UInt8) : str a ++ str b = str (a ++ b) := by
  unfold str
  apply ByteArray.ext
  apply Array.toList_inj.1
  simp
theorem cell_upon5 {b g p : Nat} {w w' : World} {x : Value} (h : Upon b w w') (hc : w.cell? ⟨g, p, none⟩ = some x) (hg : g ≠ b) : w'.cell? ⟨g, p, none⟩ = some x := by
  have hl : g < w.heap.size := World.block_lt_of_cell? w _ hc
  rw [← hc]
  exact World.cell?_of_block (w := w) (h.block g hl hg)
theorem cells32_append (a b : List Int) : cells32 (a ++ b) = cells32 a ++ cells32 b := by simp [cells32]

set_option maxRecDepth 100000 in
set_option maxHeartbeats 4000000 in
theorem ref_block (key : ByteArray) (c : Int) (nonce : ByteArray) (w : World) (hk : key.size = 32) (hn : nonce.size = 12) (hc : W32 c) :
    Calls Try.prog 20 #[.string key, .int .u32 c, .string nonce] w fun e w' => e = .returned (.string (blockS key c nonce)) ∧ Below w.heap.size w w' := by
  obtain ⟨i0, hi, hz0, hz1, hz2⟩ := info_parts info32
  have hb0 : Below w.heap.size w (w.alloc (.cells (cells32 fixed4).toArray 30)) := (Below.refl _ _).alloc (Nat.le_refl _) _
  have hown0 : (w.alloc (.cells (cells32 fixed4).toArray 30)).ownsRow w.heap.size 30 1 (.slice (some ⟨w.heap.size, 0, none⟩) 4 4) (4 + 0) (cells32 (fixed4 ++ wordsTo key 0)) := (RowIs.new w 30 (cells32 fixed4)).owns (Nat.le_refl _) rfl (by omega) (by unfold maxLen; omega)
  have HL : Hid (∀ (s : ByteArray) (w : World), s.size ≤ maxLen → Calls Try.prog 39 #[.string s] w fun e w' => e = .returned (.int .u64 (littleS s)) ∧ w = w') := ref_little
  go_enter Try.func20, Try.ntmps20
  go_wp2_with fail
  have hw1 : (w.alloc (.cells #[.int .u32 1634760805, .int .u32 857760878, .int .u32 2036477234, .int .u32 1797285236] 30)) = w.alloc (.cells (cells32 fixed4).toArray 30) := rfl
  rw [hw1]
  clear hw1
  generalize w.alloc (.cells (cells32 fixed4).toArray 30) = w1 at *
  go_loopw [7, 8] (fun v i wr => ∃ k : Nat, k ≤ 8 ∧ i = .int .i64 k ∧ wr.ownsRow w.heap.size 30 1 v (4 + k) (cells32 (fixed4 ++ wordsTo key k)) ∧ Below w.heap.size w wr) (fun _ i _ => 8 - (intOf i).toNat)
  case atStart => exact ⟨0, by omega, rfl, hown0, hb0⟩
  case round =>
    clear hown0 hb0
    obtain ⟨k, hk8, rfl, hown, hbel⟩ := hrel
    by_cases hlt : k < 8
    · have hsl := slice_word key k (by omega) (4 * (k : Int)) (4 * (k : Int) + 4) rfl rfl
      have hsz : (key.extract (4 * k) (4 * k + 4)).size ≤ maxLen := by unfold maxLen; simp; omega
      have HW : Hid (cells32 (fixed4 ++ wordsTo key (k + 1)) = cells32 (fixed4 ++ wordsTo key k) ++ cells32 [littleS (key.extract (4 * k) (4 * k + 4)) % 4294967296]) := by
        show cells32 _ = _
        rw [wordsTo_succ, ← List.append_assoc, cells32_append]; rfl
      have hbd := littleS_bd (key.extract (4 * k) (4 * k + 4))
      have hb0 := hbd.1
      have hb1 := hbd.2
      have hsize := hbel.size
      clear hbd
      generalize key.extract (4 * k) (4 * k + 4) = t at *
      have ht := HL.out t wr hsz
      generalize littleS t = v0 at *
      go_wp2_with (first | (go_at_call 39; refine ht.mono ?_; rintro e w' ⟨rfl, rfl⟩) | (at_builtin; refine wpList_append_lies (P := Try.prog) _ rfl _ _ 61 rfl w.heap.size 30 i0 (.int .u32 0) 1 4 Try.underlying61 hi hz0 hz1 hz2 rfl (by omega) u7 (4 + k) (cells32 (fixed4 ++ wordsTo key k)) rfl (hown.alloc _) ⟨wr.heap.size, 0, none⟩ 1 1 (cells32 [v0 % 4294967296]) rfl rfl (World.news_of_block (heap_alloc_new wr _)) (cells32_one _) (by omega) (by unfold maxLen; omega) (by omega) (by simp; omega) _ rfl ?_; intro g cap w3 hown3 hgrow3 hat3 hlt3))
      have hbel3 : Below w.heap.size w w3 := (hbel.alloc hsize _).grown hgrow3 (by simp; omega) (owns_block hown)
      rw [← HW.out] at hown3
      go_roundw
      case rel => exact ⟨k + 1, by omega, by go_num, hown3, hbel3⟩
      case measure => simp [intOf]; omega
    · have hk8' : k = 8 := by omega
      subst hk8'
      obtain ⟨w2, hw2⟩ : ∃ w2, w2 = wr := ⟨_, rfl⟩
      subst hw2
      have hsize := hbel.size
      have HW : Hid (cells32 (fixed4 ++ wordsTo key 8) ++ cells32 [c] = cells32 ((fixed4 ++ wordsTo key 8 ++ [c]) ++ wordsTo nonce 0)) := by
        show _ = cells32 _
        rw [← cells32_append]; simp [wordsTo]
      have hbelA : Below w.heap.size w (w2.alloc (.cells (cells32 [c]).toArray 30)) := hbel.alloc hsize _
      go_wp2_with (first | (at_builtin; refine wpList_append_lies (P := Try.prog) _ rfl _ _ 61 rfl w.heap.size 30 i0 (.int .u32 0) 1 4 Try.underlying61 hi hz0 hz1 hz2 rfl (by omega) u7 (4 + 8) (cells32 (fixed4 ++ wordsTo key 8)) rfl (hown.alloc _) ⟨w2.heap.size, 0, none⟩ 1 1 (cells32 [c]) rfl rfl (World.news_of_block (heap_alloc_new w2 _)) (cells32_one _) (by omega) (by unfold maxLen; omega) (by omega) (by simp; omega) _ rfl ?_; intro g cap w3 hown3 hgrow3 hat3 hlt3))
      have hbel3 : Below w.heap.size w w3 := hbelA.grown hgrow3 (by simp; omega) (owns_block hown)
      rw [HW.out] at hown3
      clear hown hbel hbelA hgrow3 hat3 hsize HW
      go_loopw [7, 9] (fun v i wr => ∃ k : Nat, k ≤ 3 ∧ i = .int .i64 k ∧ wr.ownsRow w.heap.size 30 1 v (13 + k) (cells32 ((fixed4 ++ wordsTo key 8 ++ [c]) ++ wordsTo nonce k)) ∧ Below w.heap.size w wr) (fun _ i _ => 3 - (intOf i).toNat)
      case atStart => exact ⟨0, by omega, rfl, hown3, hbel3⟩
      case round =>
        clear hown3 hbel3 hlt3
        obtain ⟨k, hk3, rfl, hown, hbel⟩ := hrel
        by_cases hlt : k < 3
        · have hsl := slice_word nonce k (by omega) (4 * (k : Int)) (4 * (k : Int) + 4) rfl rfl
          have hsz : (nonce.extract (4 * k) (4 * k + 4)).size ≤ maxLen := by unfold maxLen; simp; omega
          have HW : Hid (cells32 ((fixed4 ++ wordsTo key 8 ++ [c]) ++ wordsTo nonce (k + 1)) = cells32 ((fixed4 ++ wordsTo key 8 ++ [c]) ++ wordsTo nonce k) ++ cells32 [littleS (nonce.extract (4 * k) (4 * k + 4)) % 4294967296]) := by
            show cells32 _ = _
            rw [wordsTo_succ nonce k, ← List.append_assoc (fixed4 ++ wordsTo key 8 ++ [c]), cells32_append]; rfl
          have hbd := littleS_bd (nonce.extract (4 * k) (4 * k + 4))
          have hb0 := hbd.1
          have hb1 := hbd.2
          have hsize := hbel.size
          clear hbd
          generalize nonce.extract (4 * k) (4 * k + 4) = t at *
          have ht := HL.out t wr hsz
          generalize littleS t = v0 at *
          generalize fixed4 ++ wordsTo key 8 ++ [c] = pre at *
          go_wp2_with (first | (go_at_call 39; refine ht.mono ?_; rintro e w' ⟨rfl, rfl⟩) | (at_builtin; refine wpList_append_lies (P := Try.prog) _ rfl _ _ 61 rfl w.heap.size 30 i0 (.int .u32 0) 1 4 Try.underlying61 hi hz0 hz1 hz2 rfl (by omega) u7 (13 + k) (cells32 (pre ++ wordsTo nonce k)) rfl (hown.alloc _) ⟨wr.heap.size, 0, none⟩ 1 1 (cells32 [v0 % 4294967296]) rfl rfl (World.news_of_block (heap_alloc_new wr _)) (cells32_one _) (by omega) (by unfold maxLen; omega) (by omega) (by simp; omega) _ rfl ?_; intro g cap w3 hown3 hgrow3 hat3 hlt3))
          have hbel3 : Below w.heap.size w w3 := (hbel.alloc hsize _).grown hgrow3 (by simp; omega) (owns_block hown)
          rw [← HW.out] at hown3
          go_roundw
          case rel => exact ⟨k + 1, by omega, by go_num, hown3, hbel3⟩
          case measure => simp [intOf]; omega
        · have hk3' : k = 3 := by omega
          subst hk3'
          obtain ⟨w4, hw4⟩ : ∃ w4, w4 = wr := ⟨_, rfl⟩
          subst hw4
          have hf : (fixed4 ++ wordsTo key 8 ++ [c]) ++ wordsTo nonce 3 = firstL key c nonce := rfl
          rw [hf] at hown
          have HBK : Hid (blockS key c nonce = str (tellTo (dbls (firstL key c nonce) 10) (firstL key c nonce) 16)) := rfl
          have hfl := firstL_len key c nonce
          have hfw := firstL_w key c nonce hc
          generalize firstL key c nonce = f at *
          clear hf HL hk3 hk8
          obtain ⟨gs, caps, rfl, hgs⟩ : ∃ gs caps, u7 = .slice (some ⟨gs, 0, none⟩) 16 caps ∧ gs < w4.heap.size := by
            rcases hown.2 with ⟨_, h0⟩ | ⟨g, cap, cur, hv, _, hh, _⟩
            · exact absurd h0 (by decide)
            · exact ⟨g, cap, hv, (Array.getElem?_eq_some_iff.1 hh).1⟩
          have hnews : ∀ j u, (cells32 f)[j]? = some u → w4.cell? ((⟨gs, 0, none⟩ : Addr).add j) = some u := by
            intro j u h
            have hj : j < 16 := by have := (List.getElem?_eq_some_iff.1 h).1; rw [cells32_len, hfl] at this; exact this
            have h1 := hown.cellAt j (by omega)
            rw [h] at h1
            rw [show (⟨gs, 0, none⟩ : Addr).add j = ⟨gs, j, none⟩ from by simp [Addr.add]; exact fun h => h.symm]
            exact h1
          go_wp2_with (first | (at_builtin; refine wpList_append_lies (P := Try.prog) w4 rfl _ _ 61 rfl w4.heap.size 30 i0 (.int .u32 0) 1 4 Try.underlying61 hi hz0 hz1 hz2 rfl (by omega) (.slice none 0 0) 0 [] rfl ⟨rfl, Or.inl ⟨rfl, rfl⟩⟩ ⟨gs, 0, none⟩ 16 caps (cells32 f) rfl (by rw [cells32_len, hfl]) hnews (cells32_one _) (by omega) (by unfold maxLen; omega) (by omega) (Nat.le_refl _) w4.heap.size rfl ?_; intro gw capw w5 hown5 hgrow5 hat5 hlt5))
          obtain ⟨t1, t2, t3⟩ := tab_rows w5
          have hgw : gw = w4.heap.size := by
            rcases hat5 with h | h
            · cases h
            · exact h
          have b5 : Below w4.heap.size w4 w5 := (Below.refl _ _).grown hgrow5 (Nat.le_refl _) (by intro k hk; cases hk)
          rw [List.nil_append] at hown5
          have own6 : (tabL w5).ownsRow w4.heap.size 30 1 (.slice (some ⟨gw, 0, none⟩) 16 capw) 16 (cells32 f) := owns_below hown5 t3
          have ownS : (tabL w5).ownsRow w.heap.size 30 1 (.slice (some ⟨gs, 0, none⟩) 16 caps) 16 (cells32 f) := owns_below (owns_below hown b5) t3
          have bel6 : Below w.heap.size w (tabL w5) := (hbel.trans (b5.mono hbel.size)).trans (t3.mono (Nat.le_trans hbel.size b5.size))
          have hM : gw < w5.heap.size := hlt5
          have hgs5 : gs < w4.heap.size := hgs
          clear hown5 hown hgrow5 hat5 hnews hlt5 t3 b5 hgs
          change Code.wp _ _ _ _ (tabL w5)
          generalize tabL w5 = W at *
          generalize w5.heap.size = M at *
          have hNw : w.heap.size ≤ w4.heap.size := hbel.size
          have T1 : Hid (∀ k, k < 8 → RowIs W (M + k) 3 (tabRow k)) := t1
          have T2 : Hid (RowIs W (M + 8) 59 (tabAll M)) := t2
          have OS : Hid (W.ownsRow w.heap.size 30 1 (.slice (some ⟨gs, 0, none⟩) 16 caps) 16 (cells32 f)) := ownS
          have BW : Hid (Below w.heap.size w W) := bel6
          clear t1 t2 ownS bel6 hbel
          have hBg : w4.heap.size ≤ gw := Nat.le_of_eq hgw.symm
          have hsg : gs < gw := by omega
          have hNg : w.heap.size ≤ gw := by omega
          clear hgw hgs5 hNw
          refine ref_outer _ _ _ _ _ _ _ _ _ _ _ _ _ _ _ _ _ _ _ _ _ _ _ _ _ _ _ _ _ _ _ _ _ _ _ _ _ _ _ _ _ _ _ _ _ _ _ _ _ _ _ _ _ _ _ _ _ _ _ _ _ _ _ _ _ _ _ _ _ _ _ _ _ _ _ _ _ _ _ _ _ _ _ _ _ _ _ _ _ _ _ _ _ _ _ _ _ _ _ _ _ _ _ _ _ _ _ _ _ _ _ _ _ _ _ _ _ _ _ _ _ _ _ _ _ _ _ _ _ _ _ _ _ _ _ _ _ _ _ _ _ _ _ _ _ w4.heap.size gw capw M f W W hfl hfw hBg hM T1.out T2.out own6 (Upon.refl _ _) (by intro c a d v w h; cases d <;> exact h) ?_
          intro e12 e13 e14 e65 e66 e67 e68 e69 e70 e71 e72 e73 e74 e75 e76 e77 e78 e79 e80 e81 e82 e83 e84 e85 e86 e87 e88 e89 e90 e91 e92 e93 e94 e95 e96 e97 e98 e99 e100 e101 e102 e103 e104 e105 e106 e107 e108 e109 e110 e111 e112 e113 e114 e115 e116 e117 e118 e119 e120 e121 e122 e123 e124 e125 e126 e127 e128 w6 ow6 up6
          have CW : Hid (∀ k, k < 16 → w6.cell? ⟨gw, k, none⟩ = some (.int .u32 ((dbls f 10).getD k 0))) := by
            intro k hk
            have h1 := ow6.cellAt k (by omega)
            rw [cells32_at (dbls f 10) k (by rw [dbls_len, hfl]; omega)] at h1
            exact h1
          have CS : Hid (∀ k, k < 16 → w6.cell? ⟨gs, k, none⟩ = some (.int .u32 (f.getD k 0))) := by
            intro k hk
            have h1 := OS.out.cellAt k (by omega)
            rw [cells32_at f k (by omega)] at h1
            exact cell_upon5 up6 h1 (by omega)
          have hG : gw < w6.heap.size := by
            rcases ow6.2 with ⟨h, _⟩ | ⟨g, cap, cur, hv, _, hh, _⟩
            · cases h
            · injection hv with h1 _ _
              injection h1 with h1
              injection h1 with h1 _ _
              rw [h1]
              exact (Array.getElem?_eq_some_iff.1 hh).1
          have BW6 : Hid (Below w.heap.size w w6) := BW.out.trans (up6.below (by omega) BW.out.size)
          have hdw := dbls_w hfw 10
          have HT : Hid (∀ k, tellTo (dbls f 10) f (k + 1) = tellTo (dbls f 10) f k ++ putLittle (((dbls f 10).getD k 0 + f.getD k 0) % 4294967296) 4) := fun k => tellTo_succ _ _ k
          clear ow6 up6 own6 T1 T2 OS BW hM
          generalize dbls f 10 = d at *
          go_wp2_with fail
          go_loopw [15, 16] (fun o i wr => ∃ k : Nat, k ≤ 16 ∧ i = .int .i64 k ∧ o = .string (str (tellTo d f k)) ∧ Below w6.heap.size w6 wr) (fun _ i _ => 16 - (intOf i).toNat)
          case atStart => exact ⟨0, by omega, rfl, rfl, Below.refl _ _⟩
          case round =>
            obtain ⟨k, hk16, rfl, rfl, bel⟩ := hrel
            by_cases hlt : k < 16
            · have k0 : (0 : Int) ≤ (k : Int) := by omega
              have k16 : (k : Int) < 16 := by omega
              have c1 : wr.cell? ⟨gw, k, none⟩ = some (.int .u32 (d.getD k 0)) := (bel.cell (p := ⟨gw, k, none⟩) hG).trans (CW.out k hlt)
              have c2 : wr.cell? ⟨gs, k, none⟩ = some (.int .u32 (f.getD k 0)) := (bel.cell (p := ⟨gs, k, none⟩) (show gs < w6.heap.size by omega)).trans (CS.out k hlt)
              have hwd := getD_w' hdw k
              have hwf := getD_w' hfw k
              have hwd0 := hwd.1
              have hwd1 := hwd.2
              have hwf0 := hwf.1
              have hwf1 := hwf.2
              have HTk : Hid _ := HT.out k
              have htl : (str (tellTo d f k)).size = 4 * k := by rw [str_size, tellTo_len]
              clear hwd hwf
              generalize d.getD k 0 = x at *
              generalize f.getD k 0 = y at *
              have hpx : (putLittleS ((x + y) % 4294967296) 4).size = 4 := by unfold putLittleS; rw [str_size, putLittle4_len]
              have hcat : str (tellTo d f k) ++ putLittleS ((x + y) % 4294967296) 4 = str (tellTo d f (k + 1)) := by
                rw [show putLittleS ((x + y) % 4294967296) 4 = str (putLittle ((x + y) % 4294967296) 4) from rfl, str_cat5, HTk.out]
              have hln : ¬ (9223372036854775807 < 4 * k + 4) := by omega
              have HP : Hid (∀ w : World, Calls Try.prog 22 #[.int .u64 ((x + y) % 4294967296), .int .i64 4] w fun e w' => e = .returned (.string (putLittleS ((x + y) % 4294967296) 4)) ∧ Below w.heap.size w w') := fun w => ref_putLittle _ _ w (by omega) (by omega)
              have e32 : IntKind.u32.wrap (x + y) = (x + y) % 4294967296 := IntKind.wrap_u32 _
              have e64 : IntKind.u64.wrap ((x + y) % 4294967296) = (x + y) % 4294967296 := by rw [IntKind.wrap_u64]; omega
              have hGr := Nat.lt_of_lt_of_le hG bel.size
              generalize (x + y) % 4294967296 = z at *
              clear HT CW CS
              go_wp2_with fail
              go_region_held3 (fun w' => w'.cell? ⟨gw, k, none⟩ = some (.int .u32 x) ∧ w'.cell? ⟨gs, k, none⟩ = some (.int .u32 y)) (first | (refine ⟨?_, ?_⟩ <;> assumption) | go_keep) (first | (go_at_call 22; refine (HP.out _).mono ?_; rintro e w7 ⟨rfl, hb7⟩; have c3 : w7.cell? ⟨gw, k, none⟩ = some (.int .u32 x) := (hb7.cell (p := ⟨gw, k, none⟩) hGr).trans c1; have c4 : w7.cell? ⟨gs, k, none⟩ = some (.int .u32 y) := (hb7.cell (p := ⟨gs, k, none⟩) (Nat.lt_trans hsg hGr)).trans c2))
              have bel7 : Below w6.heap.size w6 w7 := bel.drew.trans (hb7.mono bel.size)
              go_wp2
              go_roundw
              case rel => exact ⟨k + 1, by omega, by go_num, rfl, bel7⟩
              case measure => simp [intOf]; omega
            · have hk16' : k = 16 := by omega
              subst hk16'
              clear hk16 hlt
              go_wp2
              go_ret
              exact ⟨ret_str HBK.out.symm, BW6.out.trans (bel.mono BW6.out.size)⟩

end Go.Proofs.Ytgeackoaghkgmaa
