/-
  Parts of this proof, one behind the other: Rep3, Rep4, Ext0, Rep6, Rf14.
-/
import Derived.Test.YtgcbanmjfnnccaaGreatBun24
import Derived.Test.YtgcbanmjfnnccaaGreatBun17
import Derived.Test.YtgcbanmjfnnccaaGreatBun14
import Derived.Test.YtgcbanmjfnnccaaGreatBun7
import Derived.Test.YtgcbanmjfnnccaaGreatBun15
import Derived.Test.YtgcbanmjfnnccaaGreatBun8

/-
  Package command's keys: a reply's keys taken out of bytes.
-/
namespace Go.Proofs.YtgcbanmjfnnccaaGreat
open Go.RowKit
set_option linter.unusedVariables false
set_option maxRecDepth 100000
set_option linter.unusedSimpArgs false

/-- What is left, whether a part was cut short, and the keys, behind so many keys. -/
structure KSt where
  rest : ByteArray
  bad : Bool
  keys : List ByteArray
def KSt.next (x : KSt) : KSt := ⟨tkR (tkR x.rest 1) (nmN x.rest 1), tkB (tkR x.rest 1) (nmB x.rest x.bad 1) (nmN x.rest 1), x.keys ++ [tkV (tkR x.rest 1) (nmN x.rest 1)]⟩
def kst (x : KSt) : Nat → KSt
  | 0 => x
  | k + 1 => (kst x k).next
theorem kst_len (x : KSt) (k : Nat) : (kst x k).keys.length = x.keys.length + k := by
  induction k with
  | zero => rfl
  | succ k ih => simp [kst, KSt.next, ih]; omega
theorem kst_rest (x : KSt) (k : Nat) : (kst x k).rest.size ≤ x.rest.size := by
  induction k with
  | zero => exact Nat.le_refl _
  | succ k ih => exact Nat.le_trans (tkR_le _ _) (Nat.le_trans (tkR_le _ _) ih)
theorem nmN_one (s : ByteArray) : nmN s 1 ≤ 255 := by
  unfold nmN
  split
  · omega
  · unfold valN
    have h := tkV_size s 1
    have := numOf_bd ((tkV s 1).data.toList)
    have hl : (tkV s 1).data.toList.length ≤ 1 := by simpa using h
    have := pow256_le _ 1 hl
    omega
theorem Upon.grown {p : Nat} {w w1 w2 : World} {row : Option Nat} (h : Upon p w w1) (hg : w1.grownBy w2 row) (hr : ∀ k, row = some k → w.heap.size ≤ k) : Upon p w w2 :=
  ⟨hg.os.trans h.os, hg.tape.trans h.tape, hg.output.trans h.output, Nat.le_trans h.size hg.size, fun k hk hn => by
    rw [hg.block k (Nat.lt_of_lt_of_le hk h.size) (fun e => by have := hr k e.symm; omega)]
    exact h.block k hk hn⟩

theorem Touch.of_upon {p : Nat} {w w' : World} (h : Upon p w w') : Touch (fun k => k = p) w w' := ⟨h.os, h.tape, h.output, h.size, fun k hk hn => h.block k hk hn⟩
set_option maxHeartbeats 2000000 in
theorem command_partsKeys (p : Nat) (s : ByteArray) (b : Bool) (w : World) (hr : PartsIs w p s b) (hs : s.size ≤ 1000000) :
    Calls Tryz.prog 30 #[.pointer (some ⟨p, 0, none⟩)] w fun e w' => (∃ v, OwnT w' w.heap.size v (kst ⟨tkR s 1, nmB s b 1, []⟩ (nmN s 1)).keys ∧ e = .returned v) ∧ PartsIs w' p (kst ⟨tkR s 1, nmB s b 1, []⟩ (nmN s 1)).rest (kst ⟨tkR s 1, nmB s b 1, []⟩ (nmN s 1)).bad ∧ Upon p w w' := by
  obtain ⟨i0, hi0, hz0, hz1, hz2⟩ := info_parts infoT
  have P1 := command_partsNumber p s b 1 w hr hs (by decide)
  rw [show ((1 : Nat) : Int) = 1 from rfl] at P1
  have hn := nmN_one s
  have hsz := tkR_le s 1
  generalize tkR s 1 = S1 at *
  generalize nmB s b 1 = B1 at *
  generalize nmN s 1 = n at *
  have hp := RowIs.lt hr
  obtain ⟨x0, hx0⟩ : ∃ x0 : KSt, x0 = ⟨S1, B1, []⟩ := ⟨_, rfl⟩
  rw [← hx0]
  have hl0 : x0.keys = [] := by rw [hx0]
  have hr0 : x0.rest.size ≤ 1000000 := by rw [hx0]; show S1.size ≤ _; omega
  have h1 : x0.rest = S1 := by rw [hx0]
  have h2 : x0.bad = B1 := by rw [hx0]
  rw [← h1, ← h2] at P1
  clear hx0 h1 h2 hsz hr
  go_enter Tryz.func30, Tryz.ntmps30
  go_wp2_with fail
  with_reducible refine P1.mono ?_
  rintro e w1 ⟨rfl, r1, u1⟩
  clear P1
  go_wp2_with fail
  go_loopw [6, 3] (fun i v wr => ∃ k : Nat, k ≤ n ∧ i = .int .i64 k ∧ OwnT wr w.heap.size v (kst x0 k).keys ∧ PartsIs wr p (kst x0 k).rest (kst x0 k).bad ∧ Upon p w wr) (fun i _ _ => n - (intOf i).toNat)
  case atStart => exact ⟨0, Nat.zero_le _, rfl, by show OwnT w1 _ _ x0.keys; rw [hl0]; exact World.ownsRow_nil _ _ _ _, r1, u1⟩
  case round =>
    clear r1 u1
    obtain ⟨k, hk, rfl, ho, r1, u1⟩ := hrel
    by_cases hlt : k < n
    · have dlt : decide ((k : Int) < (n : Int)) = true := by simp; omega
      have hkr := kst_rest x0 k
      have P2 := command_partsText p (kst x0 k).rest (kst x0 k).bad 1 _ r1 (by omega) (by decide)
      rw [show ((1 : Nat) : Int) = 1 from rfl] at P2
      have hks := kst_len x0 k
      have hnx : Hid (kst x0 (k + 1) = (kst x0 k).next) := rfl
      unfold KSt.next at hnx
      rw [hl0] at hks
      simp only [List.length_nil, Nat.zero_add] at hks
      obtain ⟨ao, co, rfl⟩ : ∃ a c, _ = Value.slice a k c := by
        have := (own_seen ho).form
        rw [cellsT_len, hks] at this
        exact this
      generalize tkV (tkR (kst x0 k).rest 1) (nmN (kst x0 k).rest 1) = KEY at *
      generalize tkR (tkR (kst x0 k).rest 1) (nmN (kst x0 k).rest 1) = R2 at *
      generalize tkB (tkR (kst x0 k).rest 1) (nmB (kst x0 k).rest (kst x0 k).bad 1) (nmN (kst x0 k).rest 1) = B2 at *
      go_wp2_with fail
      with_reducible refine P2.mono ?_
      rintro e w2 ⟨rfl, r2, u2⟩
      have ho2 : OwnT w2 w.heap.size (.slice ao k co) (kst x0 k).keys := own_touch ho (Touch.of_upon u2) (fun j hj hS => by have := (World.ownsRow.lt ho j hj).1; omega)
      have hox : (w2.alloc (.cells #[.string KEY] 9)).ownsRow w.heap.size 9 1 (.slice ao k co) (kst x0 k).keys.length (cellsT (kst x0 k).keys) := ho2.below ((Below.refl _ _).alloc (Nat.le_refl _) _)
      rw [hks] at hox
      have ux : Upon p w (w2.alloc (.cells #[.string KEY] 9)) := (u1.trans u2).alloc _
      have rx : PartsIs (w2.alloc (.cells #[.string KEY] 9)) p R2 B2 := RowIs.alloc r2 _
      have hsz2 := (u1.trans u2).size
      have hcl := cellsT_len (kst x0 k).keys
      clear ho ho2 r1 u1 u2 r2 P2
      go_wp2_with (first | (at_builtin; refine wpList_append_two _ rfl (.tmp 8) (.tmp 11) 23 rfl w.heap.size 9 i0 (.string ⟨#[]⟩) 1 16 Tryz.underlying23 hi0 hz0 hz1 hz2 rfl (by decide) (.slice ao k co) k (cellsT (kst x0 k).keys) rfl hox ⟨w2.heap.size, 0, none⟩ 1 1 [.string KEY] rfl rfl (World.news_of_block (heap_alloc_new w2 _)) (by intro x hx; simp at hx; subst hx; rfl) (by unfold maxLen; omega) (by omega) (by have := ux.size; exact this) ?_))
      intro v' w3 hown3 hgrow hat
      have r3 : PartsIs w3 p R2 B2 := by
        show w3.heap[p]? = _
        rw [hgrow.block p (RowIs.lt rx) (fun e => by have := (World.ownsRow.lt hox p e.symm).1; omega)]
        exact rx
      have u3 : Upon p w w3 := ux.grown hgrow (fun j hj => (World.ownsRow.lt hox j hj).1)
      have ho3 : Hid (OwnT w3 w.heap.size v' (kst x0 (k + 1)).keys ∧ PartsIs w3 p (kst x0 (k + 1)).rest (kst x0 (k + 1)).bad) := by
        rw [hnx.out]
        refine ⟨?_, r3⟩
        show w3.ownsRow _ _ 1 v' _ _
        rw [cellsT_append, List.length_append, hks]
        exact hown3
      obtain ⟨ag, cg, rfl⟩ : ∃ a c, v' = .slice a (k + 1) c := by
        have := (own_seen hown3).form
        rw [List.length_append, hcl, hks] at this
        exact this
      clear hown3 hgrow hat hox rx ux r3
      go_wp2
      go_roundw
      case rel => exact ⟨k + 1, by omega, by go_num, ho3.out.1, ho3.out.2, u3⟩
      case measure => simp [intOf]; omega
    · obtain rfl : k = n := by omega
      have dlt : decide ((k : Int) < (k : Int)) = false := by simp
      go_wp2
      go_ret
      exact ⟨⟨_, ho, rfl⟩, r1, u1⟩

end Go.Proofs.YtgcbanmjfnnccaaGreat

/-
  What package command's GetReply takes out of bytes: plain mathematics.
-/
namespace Go.Proofs.YtgcbanmjfnnccaaGreat
open Go.RowKit
set_option linter.unusedVariables false
set_option maxRecDepth 100000
set_option linter.unusedSimpArgs false

theorem split_at {s : ByteArray} {n : Nat} (h : n ≤ s.size) : s.data.toList = (tkV s n).data.toList ++ (tkR s n).data.toList := by
  rw [tkV_list h, tkR_list h, List.take_append_drop]
theorem tkV_len {s : ByteArray} {n : Nat} (h : n ≤ s.size) : (tkV s n).data.toList.length = n := by
  rw [tkV_list h, List.length_take]
  have : s.data.toList.length = s.size := by simp
  omega
theorem tkV_full {s : ByteArray} {n : Nat} (h : n ≤ s.size) : (tkV s n).size = n := by
  have := tkV_len h
  simpa using this
/-- A number of n bytes that was taken is those bytes. -/
theorem num_back {s : ByteArray} {n : Nat} (h : n ≤ s.size) (h1 : 1 ≤ n) (h8 : n ≤ 8) (hv : valN s n ≤ 2000000000000) : putBig (nmN s n : Int) (n : Int) = (tkV s n).data.toList := by
  have hl := tkV_len h
  have hp := putBig_numOf (tkV s n).data.toList (by omega) (by omega)
  rw [hl] at hp
  rw [← hp, nmN_is hv]
  have hb := numOf_bd8 (tkV s n).data.toList (by omega)
  unfold valN
  congr 1
  omega
theorem num_byte {s : ByteArray} (h : 1 ≤ s.size) (hv : valN s 1 ≤ 2000000000000) : [byteOf (nmN s 1 : Int) 0] = (tkV s 1).data.toList := by
  rw [← num_back h (by decide) (by decide) hv]
  rfl
theorem byte_size {s : ByteArray} (h : 1 ≤ s.size) (hv : valN s 1 ≤ 2000000000000) : nmN s 1 < 256 := by
  have := nmN_one s
  omega

theorem kst_bad (x : KSt) (k : Nat) (h : (kst x (k + 1)).bad = false) : (kst x k).bad = false ∧ 1 ≤ (kst x k).rest.size ∧ valN (kst x k).rest 1 ≤ 2000000000000 ∧ nmN (kst x k).rest 1 ≤ (tkR (kst x k).rest 1).size := by
  have h2 : tkB (tkR (kst x k).rest 1) (nmB (kst x k).rest (kst x k).bad 1) (nmN (kst x k).rest 1) = false := h
  rw [tkB_false, nmB_false] at h2
  exact ⟨h2.1.1, h2.1.2.1, h2.1.2.2, h2.2⟩
/-- What the keys took, and what is left. -/
theorem kst_list (x : KSt) (hx : x.keys = []) : ∀ k, (kst x k).bad = false → x.bad = false ∧ x.rest.data.toList = keysL (kst x k).keys ++ (kst x k).rest.data.toList
  | 0, h => ⟨h, by show _ = keysL x.keys ++ _; rw [hx]; rfl⟩
  | k + 1, h => by
    obtain ⟨h1, h2, h3, h4⟩ := kst_bad x k h
    obtain ⟨i1, i2⟩ := kst_list x hx k h1
    refine ⟨i1, ?_⟩
    rw [i2]
    show _ = keysL ((kst x k).keys ++ [tkV (tkR (kst x k).rest 1) (nmN (kst x k).rest 1)]) ++ (tkR (tkR (kst x k).rest 1) (nmN (kst x k).rest 1)).data.toList
    rw [keysL_append, List.append_assoc]
    congr 1
    rw [split_at h2, ← num_byte h2 h3, split_at h4]
    simp [keysL, tkV_full h4]

structure GotR where
  rep : Rep
  rest : ByteArray
  bad : Bool
def midB (b : ByteArray) : ByteArray := tkR (tkR (tkR b 1) 8) 8
def midF (b : ByteArray) : Bool := nmB (tkR (tkR b 1) 8) (nmB (tkR b 1) (nmB b false 1) 8) 8
def endB (b : ByteArray) : ByteArray := tkR (tkR (midB b) 2) (nmN (midB b) 2)
def endF (b : ByteArray) : Bool := tkB (tkR (midB b) 2) (nmB (midB b) (midF b) 2) (nmN (midB b) 2)
def endK (b : ByteArray) : KSt := kst ⟨tkR (endB b) 1, nmB (endB b) (endF b) 1, []⟩ (nmN (endB b) 1)
theorem midB_def (b : ByteArray) : tkR (tkR (tkR b 1) 8) 8 = midB b := rfl
theorem midF_def (b : ByteArray) : nmB (tkR (tkR b 1) 8) (nmB (tkR b 1) (nmB b false 1) 8) 8 = midF b := rfl
theorem endB_def (b : ByteArray) : tkR (tkR (midB b) 2) (nmN (midB b) 2) = endB b := rfl
theorem endF_def (b : ByteArray) : tkB (tkR (midB b) 2) (nmB (midB b) (midF b) 2) (nmN (midB b) 2) = endF b := rfl
theorem endK_def (b : ByteArray) : kst ⟨tkR (endB b) 1, nmB (endB b) (endF b) 1, []⟩ (nmN (endB b) 1) = endK b := rfl
def gotR (b : ByteArray) : GotR := ⟨⟨(nmN b 1 : Int), tkV (tkR (midB b) 2) (nmN (midB b) 2), (nmN (tkR b 1) 8 : Int) - 1000000000000, (nmN (tkR (tkR b 1) 8) 8 : Int), (endK b).keys⟩, (endK b).rest, (endK b).bad⟩

theorem gotR_bad (b : ByteArray) : (gotR b).bad = (endK b).bad := by simp only [gotR]
theorem gotR_rest (b : ByteArray) : (gotR b).rest = (endK b).rest := by simp only [gotR]
theorem gotR_rep (b : ByteArray) : (gotR b).rep = ⟨(nmN b 1 : Int), tkV (tkR (midB b) 2) (nmN (midB b) 2), (nmN (tkR b 1) 8 : Int) - 1000000000000, (nmN (tkR (tkR b 1) 8) 8 : Int), (endK b).keys⟩ := by simp only [gotR]
theorem gotR_bytes (b : ByteArray) (h : (gotR b).bad = false) : b.data.toList = (gotR b).rep.bytes ++ (gotR b).rest.data.toList := by
  have hbad := h
  rw [gotR_bad, ← endK_def] at hbad
  obtain ⟨hb, hkeys⟩ := kst_list ⟨tkR (endB b) 1, nmB (endB b) (endF b) 1, []⟩ rfl (nmN (endB b) 1) hbad
  rw [endK_def] at hkeys
  have hlen := kst_len ⟨tkR (endB b) 1, nmB (endB b) (endF b) 1, []⟩ (nmN (endB b) 1)
  rw [endK_def] at hlen
  simp only [List.length_nil, Nat.zero_add] at hb hkeys hlen
  rw [nmB_false, ← endF_def, tkB_false, nmB_false, ← midF_def, nmB_false, nmB_false, nmB_false] at hb
  obtain ⟨⟨⟨⟨⟨⟨_, n0, v0⟩, n1, v1⟩, n2, v2⟩, n3, v3⟩, n4⟩, n5, v5⟩ := hb
  have e0 := split_at n0
  have e1 := split_at n1
  have e2 := split_at n2
  have e3 := split_at n3
  have e4 := split_at n4
  have e5 := split_at n5
  rw [← num_byte n0 v0] at e0
  rw [← num_back n1 (by decide) (by decide) v1] at e1
  rw [← num_back n2 (by decide) (by decide) v2, midB_def] at e2
  rw [← num_back n3 (by decide) (by decide) v3] at e3
  rw [endB_def] at e4
  rw [← num_byte n5 v5] at e5
  have hvs := tkV_full n4
  rw [gotR_rep, gotR_rest, e0, e1, e2, e3, e4, e5, hkeys]
  generalize tkV (tkR (midB b) 2) (nmN (midB b) 2) = VAL at *
  generalize endK b = EK at *
  unfold Rep.bytes Rep.head
  simp only [hlen, hvs]
  rw [show (nmN (tkR b 1) 8 : Int) - 1000000000000 + 1000000000000 = (nmN (tkR b 1) 8 : Int) by omega]
  simp

theorem str_eq_nil {s : ByteArray} (h : s.data.toList = []) : s = ⟨#[]⟩ := by
  rw [← str_back s, h]; rfl
theorem gotR_ok (b : ByteArray) (h1 : (gotR b).bad = false) (h2 : (gotR b).rest = ⟨#[]⟩) (h3 : (gotR b).rep.Ok) : isRep b ∧ getR b = (gotR b).rep ∧ getROk b = true := by
  have hl := gotR_bytes b h1
  rw [h2, show (⟨#[]⟩ : ByteArray).data.toList = [] from rfl, List.append_nil] at hl
  have hr : repAt b.data.toList = (gotR b).rep := by rw [hl, repAt_bytes _ h3]
  have hi : isRep b := by
    refine ⟨by rw [hr]; exact h3, ?_⟩
    rw [hr]; exact hl.symm
  exact ⟨hi, by rw [(getR_yes hi).1, hr], (getR_yes hi).2⟩

theorem take_num {s : ByteArray} {A B : List UInt8} {n : Nat} (hs : s.data.toList = A ++ B) (hA : A.length = n) (h8 : n ≤ 8) (v : Nat) (hv : numOf A = (v : Int)) (hle : v ≤ 2000000000000) (b : Bool) : nmN s n = v ∧ (tkR s n).data.toList = B ∧ nmB s b n = b := by
  have hn : n ≤ s.size := by
    have : s.data.toList.length = s.size := by simp
    rw [hs, List.length_append] at this
    omega
  have hval : valN s n = v := by
    rw [valN_list hn, hs, List.take_left' hA, hv]
    rfl
  refine ⟨by rw [nmN_is (by omega), hval], by rw [tkR_list hn, hs, List.drop_left' hA], ?_⟩
  unfold nmB tkB
  rw [if_neg (by omega), if_pos hn]
theorem take_txt {s : ByteArray} {A B : List UInt8} {n : Nat} (hs : s.data.toList = A ++ B) (hA : A.length = n) (b : Bool) : tkV s n = str A ∧ (tkR s n).data.toList = B ∧ tkB s b n = b := by
  have hn : n ≤ s.size := by
    have : s.data.toList.length = s.size := by simp
    rw [hs, List.length_append] at this
    omega
  refine ⟨?_, by rw [tkR_list hn, hs, List.drop_left' hA], ?_⟩
  · rw [← str_back (tkV s n), tkV_list hn, hs, List.take_left' hA]
  · unfold tkB
    rw [if_pos hn]
theorem numOf_byte (v : Nat) (h : v < 256) : numOf [byteOf (v : Int) 0] = (v : Int) := by
  rw [numOf_one, byteOf_small v h]
theorem kst_takes (x : KSt) (ks : List ByteArray) (B : List UInt8) (hx : x.rest.data.toList = keysL ks ++ B) (hb : x.bad = false) (hs : ∀ k ∈ ks, k.size < 256) :
    ∀ j, j ≤ ks.length → (kst x j).bad = false ∧ (kst x j).keys = x.keys ++ ks.take j ∧ (kst x j).rest.data.toList = keysL (ks.drop j) ++ B
  | 0, _ => ⟨hb, by simp [kst], by simpa [kst] using hx⟩
  | j + 1, hj => by
    obtain ⟨i1, i2, i3⟩ := kst_takes x ks B hx hb hs j (by omega)
    have hd : ks.drop j = ks[j] :: ks.drop (j + 1) := List.drop_eq_getElem_cons (by omega)
    have hk : ks[j].size < 256 := hs _ (List.getElem_mem _)
    rw [hd] at i3
    have hf : (kst x j).rest.data.toList = [byteOf (ks[j].size : Int) 0] ++ (ks[j].data.toList ++ (keysL (ks.drop (j + 1)) ++ B)) := by
      rw [i3]; simp [keysL]
    obtain ⟨a1, a2, a3⟩ := take_num (n := 1) hf rfl (by decide) ks[j].size (numOf_byte _ hk) (by omega) (kst x j).bad
    obtain ⟨c1, c2, c3⟩ := take_txt (n := ks[j].size) a2 (by simp) (nmB (kst x j).rest (kst x j).bad 1)
    show (kst x j).next.bad = false ∧ (kst x j).next.keys = _ ∧ (kst x j).next.rest.data.toList = _
    unfold KSt.next
    simp only [a1]
    rw [c1, c3, a3, str_back]
    refine ⟨i1, ?_, c2⟩
    rw [i2, List.append_assoc, List.take_add_one, List.getElem?_eq_getElem (by omega)]
    rfl

set_option maxHeartbeats 1000000 in
theorem gotR_of (b : ByteArray) (h : isRep b) : (gotR b).bad = false ∧ (gotR b).rest = ⟨#[]⟩ ∧ (gotR b).rep.Ok := by
  obtain ⟨hok, hbytes⟩ := h
  generalize repAt b.data.toList = R at hok hbytes
  have hok' := hok
  obtain ⟨⟨⟨e1, e2⟩, ⟨u1, u2⟩, ⟨v1, v2⟩, hsz, hkn⟩, hks⟩ := hok
  have hL : b.data.toList = [byteOf R.errno 0] ++ (putBig (R.num + 1000000000000) 8 ++ (putBig R.ver 8 ++ (putBig (R.value.size : Int) 2 ++ (R.value.data.toList ++ ([byteOf (R.keys.length : Int) 0] ++ (keysL R.keys ++ [])))))) := by
    rw [← hbytes]
    unfold Rep.bytes Rep.head
    simp
  obtain ⟨ne, hne⟩ : ∃ n : Nat, R.errno = (n : Int) := Int.eq_ofNat_of_zero_le (by omega)
  obtain ⟨nn, hnn⟩ : ∃ n : Nat, R.num + 1000000000000 = (n : Int) := Int.eq_ofNat_of_zero_le (by omega)
  obtain ⟨nv, hnv⟩ : ∃ n : Nat, R.ver = (n : Int) := Int.eq_ofNat_of_zero_le (by omega)
  rw [hne, hnn, hnv] at hL
  obtain ⟨a1, a2, a3⟩ := take_num (n := 1) hL rfl (by decide) ne (numOf_byte ne (by omega)) (by omega) false
  obtain ⟨c1, c2, c3⟩ := take_num (n := 8) a2 (putBig8_len _) (by decide) nn (putBig8_num _ (by omega) (by omega)) (by omega) (nmB b false 1)
  obtain ⟨d1, d2, d3⟩ := take_num (n := 8) c2 (putBig8_len _) (by decide) nv (putBig8_num _ (by omega) (by omega)) (by omega) (nmB (tkR b 1) (nmB b false 1) 8)
  have d2' := d2
  rw [midB_def] at d2'
  obtain ⟨f1, f2, f3⟩ := take_num (n := 2) d2' (putBig2_len' _) (by decide) R.value.size (putBig2_num _ (by omega) (by omega)) (by omega) (midF b)
  obtain ⟨g1, g2, g3⟩ := take_txt (n := R.value.size) f2 (by simp) (nmB (midB b) (midF b) 2)
  have g2' := g2
  rw [← f1, endB_def] at g2'
  have hendF : endF b = false := by
    rw [← endF_def, f1, g3, f3, ← midF_def, d3, c3, a3]
  obtain ⟨h1, h2, h3⟩ := take_num (n := 1) g2' rfl (by decide) R.keys.length (numOf_byte _ (by omega)) (by omega) (endF b)
  have hK0 := endK_def b
  rw [h1] at hK0
  obtain ⟨x0, hx0⟩ : ∃ x0 : KSt, x0 = ⟨tkR (endB b) 1, nmB (endB b) (endF b) 1, []⟩ := ⟨_, rfl⟩
  rw [← hx0] at hK0
  have y1 : x0.rest = tkR (endB b) 1 := by rw [hx0]
  have y2 : x0.bad = nmB (endB b) (endF b) 1 := by rw [hx0]
  have y3 : x0.keys = [] := by rw [hx0]
  clear hx0
  have y4 : x0.rest.data.toList = keysL R.keys ++ [] := by rw [y1]; exact h2
  have y5 : x0.bad = false := by rw [y2, h3]; exact hendF
  have y6 : ∀ k ∈ R.keys, k.size < 256 := fun k hk => by have := hks k hk; omega
  obtain ⟨k1, k2, k3⟩ := kst_takes x0 R.keys [] y4 y5 y6 R.keys.length (Nat.le_refl _)
  have hK : endK b = kst x0 R.keys.length := hK0.symm
  rw [y3] at k2
  have hkeys : (endK b).keys = R.keys := by rw [hK, k2]; simp
  have hrep : (gotR b).rep = R := by
    rw [gotR_rep, a1, c1, d1, f1, g1, hkeys, str_back]
    obtain ⟨Re, Rs, Rn, Rv, Rk⟩ := R
    simp only at hne hnn hnv
    rw [← hne, ← hnv, ← hnn, show Rn + 1000000000000 - 1000000000000 = Rn by omega]
  have hbad : (gotR b).bad = false := by rw [gotR_bad, hK]; exact k1
  have hrest : (gotR b).rest = ⟨#[]⟩ := str_eq_nil (by rw [gotR_rest, hK, k3]; simp [keysL])
  exact ⟨hbad, hrest, by rw [hrep]; exact hok'⟩
theorem gotR_tells (b : ByteArray) : ((gotR b).bad = false ∧ (gotR b).rest = ⟨#[]⟩ ∧ (gotR b).rep.Ok ∧ getR b = (gotR b).rep ∧ getROk b = true) ∨ (¬ ((gotR b).bad = false ∧ (gotR b).rest = ⟨#[]⟩ ∧ (gotR b).rep.Ok) ∧ getR b = Rep.zero ∧ getROk b = false) := by
  by_cases h : isRep b
  · obtain ⟨h1, h2, h3⟩ := gotR_of b h
    obtain ⟨_, g1, g2⟩ := gotR_ok b h1 h2 h3
    exact Or.inl ⟨h1, h2, h3, g1, g2⟩
  · obtain ⟨g1, g2⟩ := getR_no h
    exact Or.inr ⟨fun hh => h (gotR_ok b hh.1 hh.2.1 hh.2.2).1, g1, g2⟩

end Go.Proofs.YtgcbanmjfnnccaaGreat

/-
  Parts of a string by places (as in RfC3, for the seats that do not have it).
-/
namespace Go.Proofs.YtgcbanmjfnnccaaGreat
open Go.RowKit
set_option linter.unusedVariables false
set_option maxRecDepth 100000
set_option linter.unusedSimpArgs false

theorem extract_list10 (b : ByteArray) (i j : Nat) : (b.extract i j).data.toList = (b.data.toList.drop i).take (j - i) := by
  rw [ByteArray.data_extract, Array.toList_extract]
theorem extract_str (b : ByteArray) (i j : Nat) : b.extract i j = str ((b.data.toList.drop i).take (j - i)) := by rw [← extract_list10, str_back]
theorem extract_end (b : ByteArray) (i : Nat) : b.extract i b.size = str (b.data.toList.drop i) := by
  rw [extract_str, List.take_of_length_le (by simp)]
theorem bigS_ext (b : ByteArray) (i : Nat) (h : i + 8 ≤ b.size) : bigS (b.extract i (i + 8)) = numOf ((b.data.toList.drop i).take 8) := by
  rw [bigS_small _ (by rw [ByteArray.size_extract]; omega), extract_list10, show i + 8 - i = 8 by omega]
theorem slice_mid10 (b : ByteArray) (i j : Nat) (w : World) (h : i ≤ j) (h2 : j ≤ b.size) : (Instr.slice 9 (.string b) (some (.int .i64 (i : Int))) (some (.int .i64 (j : Int))) none).run Tryz.prog w = .ok (.string (b.extract i j)) w := by
  have h0 : (0 : Int) ≤ (i : Int) := by omega
  have h1 : (i : Int) ≤ (j : Int) := by omega
  have h3 : (j : Int) ≤ (b.size : Int) := by omega
  simp [go_sem, Tryz.underlying9, h0, h1, h3, h, h2]
theorem slice_end10 (b : ByteArray) (i : Nat) (w : World) (h : i ≤ b.size) : (Instr.slice 9 (.string b) (some (.int .i64 (i : Int))) none none).run Tryz.prog w = .ok (.string (b.extract i b.size)) w := by
  have h0 : (0 : Int) ≤ (i : Int) := by omega
  have h1 : (i : Int) ≤ (b.size : Int) := by omega
  simp [go_sem, Tryz.underlying9, h0, h1, h]

end Go.Proofs.YtgcbanmjfnnccaaGreat

/-
  Plain mathematics for the reference's GetReply: where the keys lie in bytes.
-/
namespace Go.Proofs.YtgcbanmjfnnccaaGreat
open Go.RowKit
set_option linter.unusedVariables false
set_option maxRecDepth 100000
set_option linter.unusedSimpArgs false

def byteN (b : ByteArray) (p : Nat) : Nat := (b.data.toList.getD p 0).toNat
/-- Where key k's length lies, the first one's at a. -/
def posK (b : ByteArray) (a : Nat) : Nat → Nat
  | 0 => a
  | k + 1 => posK b a k + 1 + byteN b (posK b a k)
def keyK (b : ByteArray) (p : Nat) : ByteArray := b.extract (p + 1) (p + 1 + byteN b p)
def keysK (b : ByteArray) (a : Nat) : Nat → List ByteArray
  | 0 => []
  | k + 1 => keysK b a k ++ [keyK b (posK b a k)]
def fitK (b : ByteArray) (a k : Nat) : Prop := ∀ j, j < k → posK b a j < b.size ∧ posK b a j + 1 + byteN b (posK b a j) ≤ b.size
theorem keysK_len (b : ByteArray) (a : Nat) : ∀ k, (keysK b a k).length = k
  | 0 => rfl
  | k + 1 => by simp [keysK, keysK_len b a k]
theorem posK_shift (b : ByteArray) (a : Nat) : ∀ k, posK b a (k + 1) = posK b (a + 1 + byteN b a) k
  | 0 => rfl
  | k + 1 => by
    show posK b a (k + 1) + 1 + byteN b (posK b a (k + 1)) = posK b (a + 1 + byteN b a) k + 1 + byteN b (posK b (a + 1 + byteN b a) k)
    rw [posK_shift b a k]
theorem keysK_shift (b : ByteArray) (a : Nat) : ∀ k, keysK b a (k + 1) = keyK b a :: keysK b (a + 1 + byteN b a) k
  | 0 => rfl
  | k + 1 => by
    show keysK b a (k + 1) ++ [keyK b (posK b a (k + 1))] = keyK b a :: (keysK b (a + 1 + byteN b a) k ++ [keyK b (posK b (a + 1 + byteN b a) k)])
    rw [keysK_shift b a k, posK_shift b a k]
    rfl
theorem keyK_size (b : ByteArray) (p : Nat) : (keyK b p).size < 256 := by
  have := (b.data.toList.getD p 0).toNat_lt
  unfold keyK byteN
  rw [ByteArray.size_extract]
  omega
theorem keysK_sizes (b : ByteArray) (a : Nat) : ∀ k, ∀ y ∈ keysK b a k, y.size < 256
  | 0, y, hy => by cases hy
  | k + 1, y, hy => by
    rcases List.mem_append.1 hy with h | h
    · exact keysK_sizes b a k y h
    · rw [List.mem_singleton] at h
      rw [h]; exact keyK_size _ _
theorem fitK_pos (b : ByteArray) (a k : Nat) (ha : a ≤ b.size) (h : fitK b a k) : a ≤ posK b a k ∧ posK b a k ≤ b.size := by
  induction k with
  | zero => exact ⟨Nat.le_refl _, ha⟩
  | succ k ih =>
    have h1 := h k (by omega)
    have h2 := ih (fun j hj => h j (by omega))
    show a ≤ posK b a k + 1 + byteN b (posK b a k) ∧ posK b a k + 1 + byteN b (posK b a k) ≤ b.size
    omega
theorem fitK_of (b : ByteArray) : ∀ (n a : Nat), Good n (b.data.toList.drop a) → fitK b a n ∧ keysK b a n = takeK n (b.data.toList.drop a)
  | 0, a, _ => ⟨fun j hj => absurd hj (by omega), rfl⟩
  | n + 1, a, h => by
    obtain ⟨x, r, hl, hx, hg⟩ := h.next
    have hlen : b.data.toList.length = b.size := by simp
    have hd := congrArg List.length hl
    rw [List.length_drop, List.length_cons] at hd
    have hxa : b.data.toList.getD a 0 = x := by
      rw [List.getD_eq_getElem?_getD, ← List.head?_drop, hl]; rfl
    have hbn : byteN b a = x.toNat := by unfold byteN; rw [hxa]
    have hr : r = b.data.toList.drop (a + 1) := by
      rw [← List.drop_drop, hl]; rfl
    have hr2 : r.drop x.toNat = b.data.toList.drop (a + 1 + byteN b a) := by rw [hbn, hr, List.drop_drop]
    rw [hr2] at hg
    obtain ⟨i1, i2⟩ := fitK_of b n (a + 1 + byteN b a) hg
    refine ⟨?_, ?_⟩
    · intro j hj
      cases j with
      | zero =>
        show a < b.size ∧ a + 1 + byteN b a ≤ b.size
        omega
      | succ j =>
        rw [posK_shift]
        exact i1 j (by omega)
    · rw [keysK_shift, i2, hl]
      show _ = str (r.take x.toNat) :: takeK n (r.drop x.toNat)
      rw [hr2]
      congr 1
      unfold keyK
      rw [extract_str, hbn, show a + 1 + x.toNat - (a + 1) = x.toNat by omega, ← hr]
/-- The reply that the reference reads out of bytes. -/
def refR (b : ByteArray) : Rep := ⟨(byteN b 0 : Int), b.extract 19 (19 + sizeAt b.data.toList), numOf ((b.data.toList.drop 1).take 8) - 1000000000000, numOf ((b.data.toList.drop 9).take 8), keysK b (20 + sizeAt b.data.toList) (countAt b.data.toList)⟩
theorem refR_of {b : ByteArray} (h : isRep b) : fitK b (20 + sizeAt b.data.toList) (countAt b.data.toList) ∧ refR b = repAt b.data.toList := by
  obtain ⟨_, hg⟩ := h.facts
  obtain ⟨i1, i2⟩ := fitK_of b _ _ hg
  refine ⟨i1, ?_⟩
  unfold refR repAt
  rw [i2, extract_str, show 19 + sizeAt b.data.toList - 19 = sizeAt b.data.toList by omega]
  rfl
theorem refR_tells (b : ByteArray) : ((refR b).ok = true ∧ (refR b).put = b ∧ getR b = refR b ∧ getROk b = true) ∨ (¬ ((refR b).ok = true ∧ (refR b).put = b) ∧ getR b = Rep.zero ∧ getROk b = false) := by
  by_cases h : isRep b
  · obtain ⟨_, e⟩ := refR_of h
    obtain ⟨g1, g2⟩ := getR_yes h
    exact Or.inl ⟨by rw [e]; exact decide_eq_true h.1, by rw [e, Rep.put_yes h.1, h.2, str_back], by rw [g1, e], g2⟩
  · obtain ⟨g1, g2⟩ := getR_no h
    refine Or.inr ⟨fun hh => h ?_, g1, g2⟩
    have := (getR_put (of_decide_eq_true hh.1)).1
    rw [hh.2] at this
    exact this
/-- Bytes that the reference turns away ahead of its PutReply. -/
theorem refR_away {b : ByteArray} (h : ¬ (20 + sizeAt b.data.toList ≤ b.size ∧ numOf ((b.data.toList.drop 1).take 8) ≤ 2000000000000 ∧ numOf ((b.data.toList.drop 9).take 8) ≤ 1000000000000 ∧ fitK b (20 + sizeAt b.data.toList) (countAt b.data.toList))) : getR b = Rep.zero ∧ getROk b = false := by
  refine getR_no (fun hr => h ?_)
  obtain ⟨⟨_, ⟨_, hn⟩, ⟨_, hv⟩, _⟩, _⟩ := hr.1
  have hn' : numOf ((b.data.toList.drop 1).take 8) - 1000000000000 ≤ 1000000000000 := hn
  exact ⟨hr.facts.1, by omega, hv, (refR_of hr).1⟩

end Go.Proofs.YtgcbanmjfnnccaaGreat

/-
  One region that draws its order: the reference's GetReply appends a key to the reply's list and stores it back.
-/
namespace Go.Proofs.YtgcbanmjfnnccaaGreat
open Go.RowKit
set_option linter.unusedVariables false
set_option maxRecDepth 100000
set_option linter.unusedSimpArgs false

section
variable {P : Program}
theorem run_sliceM' {a : Act} {o : Oper} {x y z : Operand} {t : TypeId} {s r : ByteArray} {i j : Int} (ho : o.op = .slice t x (some y) (some z) none) (hx : a.eval x = .string s) (hy : a.eval y = .int .i64 i) (hz : a.eval z = .int .i64 j) (hu : P.underlying t = some .string) {w : World} (h : (Instr.slice t (.string s) (some (.int .i64 i)) (some (.int .i64 j)) none).run P w = .ok (.string r) w) :
    (execOp a.eval o).run P w = .ok (.value (.string r)) w := by
  unfold execOp
  simp only [ho, Option.map_none, Option.map_some, hx, hy, hz]
  simp [go_sem, hu, h]
/-- A list is stored. -/
theorem wp_store1' {o : Oper} {a : Act} {w : World} {K : Act → World → Prop} {Q : Exit → Act → World → Prop} {t : TypeId} {x y : Operand} {p : Addr} {v : Value} {q : Option Addr} {n c : Nat} (ho : o.op = .store t x y) (hd : o.dst = none) (hx : a.eval x = .pointer (some p)) (hy : a.eval y = .slice q n c)
    (hz : (P.info? t).map (·.size) = some 1) (hc : w.cell? p = some v) (hf : w.frozen? p = false) (h : K a (w.setCell p (.slice q n c))) : o.wp P a w K Q := by
  have hrun : (Instr.storeAt t (.pointer (some p)) (.slice q n c)).run P w = .ok () (w.setCell p (.slice q n c)) := by
    have hz' : (sizeOf t).run P w = .ok 1 w := by
      cases hi : P.info? t with
      | none => simp [hi] at hz
      | some i => simp [hi] at hz; simp [sizeOf, typeInfo, hi, hz]
    simp [go_sem, hz', hc, hf]
  unfold Oper.wp execOp
  simp only [ho, hx, hy, Sem.run_bind, hrun]
  simp only [Result.andThen_ok, Sem.run_pure, Oper.upon, hd, Act.put]
  exact h
end

theorem OwnT.otherV {w : World} {base : Nat} {v : Value} {l : List ByteArray} (h : OwnT w base v l) {a : Addr} (ha : a.block < base) (u : Value) : OwnT (w.setCell a u) base v l := by
  refine ⟨h.1, ?_⟩
  rcases h.2 with hn | ⟨g', cap', cur, hv, hg, hh, r⟩
  · exact Or.inl hn
  · exact Or.inr ⟨g', cap', cur, hv, hg, by rw [Below.heap_setCell _ _ _ _ (by omega)]; exact hh, r⟩

def rf14L : List (Option Tmp × Op) :=
  [(some 81, .fieldAddr 25 (.tmp 7) 4),
   (some 82, .load 23 (.tmp 81)),
   (some 83, .move (.tmp 0)),
   (some 84, .move (.tmp 8)),
   (some 85, .binOp .add 3 (.tmp 84) (.const (.int .i64 1)) 3),
   (some 86, .move (.tmp 8)),
   (some 87, .binOp .add 3 (.tmp 86) (.const (.int .i64 1)) 3),
   (some 88, .move (.tmp 0)),
   (some 89, .move (.tmp 8)),
   (some 90, .index 9 (.tmp 88) (.tmp 89)),
   (some 91, .convert 5 3 (.tmp 90)),
   (some 92, .binOp .add 3 (.tmp 87) (.tmp 91) 3),
   (some 93, .slice 9 (.tmp 83) (some (.tmp 85)) (some (.tmp 92)) none),
   (some 94, .buildSlice 23 1 #[(0, .tmp 93)]),
   (some 95, .call { callee := .builtin .append, args := #[.tmp 82, .tmp 94], argTypes := #[23, 23] }),
   (some 96, .fieldAddr 25 (.tmp 7) 4),
   (none, .store 23 (.tmp 96) (.tmp 95))]
def rf14W : List (List Nat) :=
  [[], [0], [], [], [3], [], [5], [], [], [7, 8], [9], [6, 10], [2, 4, 11], [12], [1, 13], [0, 1, 2, 3, 4, 5, 6, 7, 8, 9, 10, 11, 12, 13, 14], [0, 1, 2, 3, 4, 5, 6, 7, 8, 9, 10, 11, 12, 13, 14, 15]]

set_option maxHeartbeats 1000000 in
theorem rf14_region {id : Nat} {ops : Array Oper} {Q : Exit → Act → World → Prop} {a0 : Act} {w : World} (g B : Nat) (b KEY : ByteArray) (P Y : Nat) (x0 x1 x2 x3 : Value) (ao : Option Addr) (k co : Nat) (KS : List ByteArray)
    (hP : P < b.size) (hYd : (b.data.toList.getD P 0).toNat = Y) (hY : Y < 256) (hb : b.size ≤ 1000000) (hS : ∀ w : World, (Instr.slice 9 (.string b) (some (.int .i64 ((P : Int) + 1))) (some (.int .i64 ((P : Int) + 1 + (Y : Int)))) none).run Tryz.prog w = .ok (.string KEY) w)
    (hgB : g < B) (hBw : B ≤ w.heap.size) (hlk : KS.length = k) (hk9 : k < 256)
    (hok : regOk ops 118 = true) (hk : kinds ops = rf14L) (hL : waitsL ops = rf14W) (hsz : a0.tmps.size = 118)
    (h0 : a0.eval (.tmp 0) = .string b) (h7 : a0.eval (.tmp 7) = .pointer (some ⟨g, 0, none⟩)) (h8 : a0.eval (.tmp 8) = .int .i64 (P : Int))
    (hrow : RowIs w g 25 [x0, x1, x2, x3, .slice ao k co]) (ho : OwnT w B (.slice ao k co) KS)
    (hend : ∀ (v81 v82 v83 v84 v85 v86 v87 v88 v89 v90 v91 v92 v93 v94 v95 v96 : Value) w5, OwnT w5 B v95 (KS ++ [KEY]) → RowIs w5 g 25 [x0, x1, x2, x3, v95] → Touch (fun n => n = g ∨ B ≤ n) w w5 →
      Q .normal ((((((((((((((((a0.put (some 81) v81).put (some 82) v82).put (some 83) v83).put (some 84) v84).put (some 85) v85).put (some 86) v86).put (some 87) v87).put (some 88) v88).put (some 89) v89).put (some 90) v90).put (some 91) v91).put (some 92) v92).put (some 93) v93).put (some 94) v94).put (some 95) v95).put (some 96) v96) w5) :
    (Code.region id ops true).wp Tryz.prog Q a0 w := by
  obtain ⟨i0, hi0, hz0, hz1, hz2⟩ := info_parts infoT
  obtain ⟨F, hF⟩ : ∃ F : List (Value → World → Prop), F = [fun v _ => v = .pointer (some ⟨g, 4, none⟩),
    fun v _ => v = .slice ao k co,
    fun v _ => v = .string b,
    fun v _ => v = .int .i64 (P : Int),
    fun v _ => v = .int .i64 ((P : Int) + 1),
    fun v _ => v = .int .i64 (P : Int),
    fun v _ => v = .int .i64 ((P : Int) + 1),
    fun v _ => v = .string b,
    fun v _ => v = .int .i64 (P : Int),
    fun v _ => v = .int .u8 (Y : Int),
    fun v _ => v = .int .i64 (Y : Int),
    fun v _ => v = .int .i64 ((P : Int) + 1 + (Y : Int)),
    fun v _ => v = .string KEY,
    fun v w => ∃ q, v = .slice (some ⟨q, 0, none⟩) 1 1 ∧ RowIs w q 9 [.string KEY],
    fun _ _ => True,
    fun v _ => v = .pointer (some ⟨g, 4, none⟩),
    fun _ _ => True] := ⟨_, rfl⟩
  obtain ⟨S, hSd⟩ : ∃ S : Nat → Prop, S = fun n => n = g ∨ B ≤ n := ⟨_, rfl⟩
  obtain ⟨R0, hR0d⟩ : ∃ R0 : World → Prop, R0 = fun w5 => Touch S w w5 ∧ RowIs w5 g 25 [x0, x1, x2, x3, .slice ao k co] ∧ OwnT w5 B (.slice ao k co) KS := ⟨_, rfl⟩
  obtain ⟨R1, hR1d⟩ : ∃ R1 : Value → World → Prop, R1 = fun v w5 => Touch S w w5 ∧ RowIs w5 g 25 [x0, x1, x2, x3, .slice ao k co] ∧ OwnT w5 B v (KS ++ [KEY]) := ⟨_, rfl⟩
  obtain ⟨R2, hR2d⟩ : ∃ R2 : Value → World → Prop, R2 = fun v w5 => Touch S w w5 ∧ RowIs w5 g 25 [x0, x1, x2, x3, v] ∧ OwnT w5 B v (KS ++ [KEY]) := ⟨_, rfl⟩
  have d4 : IntKind.i64.wrap ((P : Int) + 1) = (P : Int) + 1 := by rw [IntKind.wrap_i64]; omega
  have d11 : IntKind.i64.wrap ((P : Int) + 1 + (Y : Int)) = (P : Int) + 1 + (Y : Int) := by rw [IntKind.wrap_i64]; omega
  have d10 : IntKind.i64.wrap (Y : Int) = (Y : Int) := by rw [IntKind.wrap_i64]; omega
  have st0 : StepV Tryz.prog Q rf14L rf14W F a0 14 0 := by
    subst hF
    intro o hd ho a w hout hJ
    exact st_w hd (run_field' (n := 0) ho ((hout 7 (by decide)).trans h7) Tryz.underlying25 rfl (by kernel_rfl) w) ⟨w, rfl⟩
  have st1 : StepP Tryz.prog Q rf14L rf14W F R0 a0 1 := by
    subst hF hR0d
    intro o hd ho a w hR hout hJ
    exact st_v hd (run_load1' ho (show a.eval (.tmp 81) = .pointer (some ⟨g, 4, none⟩) from hJ 0 (by decide)) Tryz.underlying23 rfl w (hR.2.1.cellAt rfl)) rfl
  have st2 : StepV Tryz.prog Q rf14L rf14W F a0 14 2 := by
    subst hF
    intro o hd ho a w hout hJ
    exact st_w hd (run_move' ho ((hout 0 (by decide)).trans h0) w) ⟨w, rfl⟩
  have st3 : StepV Tryz.prog Q rf14L rf14W F a0 14 3 := by
    subst hF
    intro o hd ho a w hout hJ
    exact st_w hd (run_move' ho ((hout 8 (by decide)).trans h8) w) ⟨w, rfl⟩
  have st4 : StepV Tryz.prog Q rf14L rf14W F a0 14 4 := by
    subst hF
    intro o hd ho a w hout hJ
    have h5 := run_addI' ho (show a.eval (.tmp 84) = .int .i64 (P : Int) from ex_v (hJ 3 (by decide) (by decide))) (show a.eval (.const (.int .i64 1)) = .int .i64 1 from rfl) Tryz.underlying3 w
    rw [d4] at h5
    exact st_w hd h5 ⟨w, rfl⟩
  have st5 : StepV Tryz.prog Q rf14L rf14W F a0 14 5 := by
    subst hF
    intro o hd ho a w hout hJ
    exact st_w hd (run_move' ho ((hout 8 (by decide)).trans h8) w) ⟨w, rfl⟩
  have st6 : StepV Tryz.prog Q rf14L rf14W F a0 14 6 := by
    subst hF
    intro o hd ho a w hout hJ
    have h5 := run_addI' ho (show a.eval (.tmp 86) = .int .i64 (P : Int) from ex_v (hJ 5 (by decide) (by decide))) (show a.eval (.const (.int .i64 1)) = .int .i64 1 from rfl) Tryz.underlying3 w
    rw [d4] at h5
    exact st_w hd h5 ⟨w, rfl⟩
  have st7 : StepV Tryz.prog Q rf14L rf14W F a0 14 7 := by
    subst hF
    intro o hd ho a w hout hJ
    exact st_w hd (run_move' ho ((hout 0 (by decide)).trans h0) w) ⟨w, rfl⟩
  have st8 : StepV Tryz.prog Q rf14L rf14W F a0 14 8 := by
    subst hF
    intro o hd ho a w hout hJ
    exact st_w hd (run_move' ho ((hout 8 (by decide)).trans h8) w) ⟨w, rfl⟩
  have st9 : StepV Tryz.prog Q rf14L rf14W F a0 14 9 := by
    subst hF
    intro o hd ho a w hout hJ
    have h5 := run_index1' ho (show a.eval (.tmp 88) = .string b from ex_v (hJ 7 (by decide) (by decide))) (show a.eval (.tmp 89) = .int .i64 (P : Int) from ex_v (hJ 8 (by decide) (by decide))) hP Tryz.underlying9 w
    rw [hYd] at h5
    exact st_w hd h5 ⟨w, rfl⟩
  have st10 : StepV Tryz.prog Q rf14L rf14W F a0 14 10 := by
    subst hF
    intro o hd ho a w hout hJ
    exact st_w hd (run_convI' ho (show a.eval (.tmp 90) = .int .u8 (Y : Int) from ex_v (hJ 9 (by decide) (by decide))) (by kernel_rfl) Tryz.underlying3 d10 w) ⟨w, rfl⟩
  have st11 : StepV Tryz.prog Q rf14L rf14W F a0 14 11 := by
    subst hF
    intro o hd ho a w hout hJ
    have h5 := run_addI' ho (show a.eval (.tmp 87) = .int .i64 ((P : Int) + 1) from ex_v (hJ 6 (by decide) (by decide))) (show a.eval (.tmp 91) = .int .i64 (Y : Int) from ex_v (hJ 10 (by decide) (by decide))) Tryz.underlying3 w
    rw [d11] at h5
    exact st_w hd h5 ⟨w, rfl⟩
  have st12 : StepV Tryz.prog Q rf14L rf14W F a0 14 12 := by
    subst hF
    intro o hd ho a w hout hJ
    exact st_w hd (run_sliceM' ho (show a.eval (.tmp 83) = .string b from ex_v (hJ 2 (by decide) (by decide))) (show a.eval (.tmp 85) = .int .i64 ((P : Int) + 1) from ex_v (hJ 4 (by decide) (by decide))) (show a.eval (.tmp 92) = .int .i64 ((P : Int) + 1 + (Y : Int)) from ex_v (hJ 11 (by decide) (by decide))) Tryz.underlying9 (hS w)) ⟨w, rfl⟩
  have st13 : StepP Tryz.prog Q rf14L rf14W F R0 a0 13 := by
    subst hF hR0d
    intro o hd ho a w hR hout hJ
    exact st_m hd (run_build1' ho (show a.eval (.tmp 93) = .string KEY from hJ 12 (by decide)) Tryz.underlying23 hi0 hz1 hz0 (fun cs => nofun) w) ((Below.refl _ _).alloc (Nat.le_refl _) _) ⟨w.heap.size, rfl, RowIs.new w _ _⟩
  have st15 : StepV Tryz.prog Q rf14L rf14W F a0 14 15 := by
    subst hF
    intro o hd ho a w hout hJ
    exact st_w hd (run_field' (n := 0) ho ((hout 7 (by decide)).trans h7) Tryz.underlying25 rfl (by kernel_rfl) w) ⟨w, rfl⟩
  refine wp_region_K (p := 14) (q := 16) rf14L rf14W F R0 R1 R2 [1, 13] (by kernel_rfl) hok hk hL (n := 17) rfl hsz (by decide) (by decide) (by decide) (by decide) (by decide) (by decide) ?_ ?_ ?_ ?_ ?_ ?_ ?_ ?_ ?_
  · subst hF
    intro i hi hm
    match i, hi, hm with
    | 0, _, _ => exact fun _ _ _ h => h
    | 1, _, hm => exact absurd (by decide) hm
    | 2, _, _ => exact fun _ _ _ h => h
    | 3, _, _ => exact fun _ _ _ h => h
    | 4, _, _ => exact fun _ _ _ h => h
    | 5, _, _ => exact fun _ _ _ h => h
    | 6, _, _ => exact fun _ _ _ h => h
    | 7, _, _ => exact fun _ _ _ h => h
    | 8, _, _ => exact fun _ _ _ h => h
    | 9, _, _ => exact fun _ _ _ h => h
    | 10, _, _ => exact fun _ _ _ h => h
    | 11, _, _ => exact fun _ _ _ h => h
    | 12, _, _ => exact fun _ _ _ h => h
    | 13, _, hm => exact absurd (by decide) hm
    | 14, _, _ => exact fun _ _ _ h => h
    | 15, _, _ => exact fun _ _ _ h => h
    | 16, _, _ => exact fun _ _ _ h => h
    | k + 17, h, _ => exact absurd h (by omega)
  · subst hR0d
    exact ⟨(Touch.refl _ _).drew, RowIs.drew hrow, ho.below ((Below.refl _ _).drew)⟩
  · subst hR0d
    rintro u u2 ⟨h1, h2, h3⟩ hb
    exact ⟨h1.trans (Touch.of_below hb), RowIs.below h2 hb (RowIs.lt h2), h3.below hb⟩
  · subst hF
    exact ⟨fun _ _ _ _ h => h, fun _ _ _ _ h => h, fun _ _ _ _ h => h, fun _ _ _ _ h => h, fun _ _ _ _ h => h, fun _ _ _ _ h => h, fun _ _ _ _ h => h, fun _ _ _ _ h => h, fun _ _ _ _ h => h, fun _ _ _ _ h => h, fun _ _ _ _ h => h, fun _ _ _ _ h => h, fun _ _ _ _ h => h, fun _ _ _ hb ⟨q, e, r⟩ => ⟨q, e, RowIs.below r hb (RowIs.lt r)⟩, fun _ _ _ _ h => h, fun _ _ _ _ h => h, fun _ _ _ _ h => h, True.intro⟩
  · intro i hi h1 h2 hm
    match i, hi, h1, h2, hm with
    | 0, _, _, _, _ => exact st0
    | 1, _, _, _, hm => exact absurd (by decide) hm
    | 2, _, _, _, _ => exact st2
    | 3, _, _, _, _ => exact st3
    | 4, _, _, _, _ => exact st4
    | 5, _, _, _, _ => exact st5
    | 6, _, _, _, _ => exact st6
    | 7, _, _, _, _ => exact st7
    | 8, _, _, _, _ => exact st8
    | 9, _, _, _, _ => exact st9
    | 10, _, _, _, _ => exact st10
    | 11, _, _, _, _ => exact st11
    | 12, _, _, _, _ => exact st12
    | 13, _, _, _, hm => exact absurd (by decide) hm
    | 14, _, h, _, _ => exact absurd rfl h
    | 15, _, _, _, _ => exact st15
    | 16, _, _, h, _ => exact absurd rfl h
    | k + 17, h, _, _, _ => exact absurd h (by omega)
  · intro i hi
    rcases List.mem_cons.1 hi with rfl | hi
    · exact st1
    rcases List.mem_cons.1 hi with rfl | hi
    · exact st13
    · cases hi
  · subst hF hR0d hR1d
    rintro o hd ho' a w5 ⟨ht, hr, hw⟩ hout hJ
    have hq : ∃ q, laidAt a (some 94) = .slice (some ⟨q, 0, none⟩) 1 1 ∧ RowIs w5 q 9 [.string KEY] := hJ 13 (by decide)
    obtain ⟨q, hv, hrq⟩ := hq
    have hx : a.eval (.tmp 82) = .slice ao k co := hJ 1 (by decide)
    have hw' : w5.ownsRow B 9 1 (.slice ao k co) k (cellsT KS) := by unfold OwnT at hw; rwa [hlk] at hw
    have hkl := cellsT_len KS
    refine wp_append_two w5 (.tmp 82) (.tmp 94) 23 ho' B 9 i0 (.string ⟨#[]⟩) 1 16 Tryz.underlying23 hi0 hz0 hz1 hz2 rfl (by decide) (.slice ao k co) k (cellsT KS) hx hw' ⟨q, 0, none⟩ 1 1 [.string KEY] hv rfl ?_ (by intro x hx; simp at hx; subst hx; rfl) (by unfold maxLen; omega) (by omega) (Nat.le_trans hBw ht.size) ?_
    · intro j u hj
      obtain rfl : j = 0 := by
        have := (List.getElem?_eq_some_iff.1 hj).1
        simpa using this
      exact hrq.cellAt hj
    · intro v' w6 h1 h2 h3
      refine ⟨v', rfl, ht.grown h2 (fun n hn => ?_), ?_, ?_⟩
      · subst hSd
        exact Or.inl (Or.inr (World.ownsRow.lt hw' n hn).1)
      · show w6.heap[g]? = _
        rw [h2.block g hr.lt (fun e => by have := (World.ownsRow.lt hw' g e.symm).1; omega)]
        exact hr
      · rw [hd]
        unfold OwnT
        rw [cellsT_append, List.length_append, hlk]
        exact h1
  · subst hF hR1d hR2d
    rintro o hd ho' a w5 ⟨ht, hr, hw⟩ hout hJ
    have hp : a.eval (.tmp 96) = .pointer (some ⟨g, 4, none⟩) := ex_v (hJ 15 (by decide) (by decide))
    obtain ⟨a1, c1, hv⟩ := hw.shape
    have hv' : a.eval (.tmp 95) = .slice a1 (KS ++ [KEY]).length c1 := hv
    refine wp_store1' ho' hd hp hv' (by kernel_rfl) (hr.cellAt (j := 4) rfl) (hr.frozen 4) ?_
    refine ⟨undef, by rw [hd]; rfl, ht.set (Or.inl (by subst hSd; exact Or.inl rfl)) _, ?_, ?_⟩
    · have h5 := RowIs.set hr 4 (.slice a1 (KS ++ [KEY]).length c1)
      rw [hv]
      exact h5
    · exact hw.otherV hgB _
  · subst hF hR2d
    rintro a w5 hs hdf hout ⟨ht, hr, hw⟩ hJ
    have hEqA := act_puts a a0 [81, 82, 83, 84, 85, 86, 87, 88, 89, 90, 91, 92, 93, 94, 95, 96] (by rw [hs, hsz]) hdf (by rw [hs]; decide) (fun t ht => hout t (fun h => ht (by simpa [rf14L] using h)))
    simp only [List.foldl] at hEqA
    rw [hEqA]
    subst hSd
    exact hend _ _ _ _ _ _ _ _ _ _ _ _ _ _ _ _ w5 hw hr ht
end Go.Proofs.YtgcbanmjfnnccaaGreat
