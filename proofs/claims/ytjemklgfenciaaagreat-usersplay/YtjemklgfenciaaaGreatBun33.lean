/-
  Parts of this proof, one behind the other: UsrK3, UsrK.
-/
import Derived.Test.YtjemklgfenciaaaGreatBun30
import Derived.Test.YtjemklgfenciaaaGreatBun17

/-
  Package users: Names.
-/
namespace Go.Proofs.YtjemklgfenciaaaGreat
open Go.RowKit
set_option linter.unusedVariables false
set_option maxRecDepth 100000
set_option linter.unusedSimpArgs false

def byB (x : List UInt8) : ByteArray := ⟨x.toArray⟩
def leU (x y : List UInt8) : Bool := decide (x ≤ y)
section
variable {w : World} {p m nn : Nat} {D : DataW Unit} {blk : Nat → Nat} {B : List Usr}
theorem names_perm (h : StU w p m nn D blk B) {ss : List (List UInt8)} (hp : ss.Perm (strKeys D)) : ss.Perm ((namesU B).map fun n => n.data.toList) := by
  obtain ⟨es, hD, hpw, _⟩ := h.mp.entries lawU
  obtain ⟨es', hD', hko⟩ := h.mp.keysOf
  obtain rfl : es = es' := by rw [hD] at hD'; simpa using hD'
  have hno := h.no
  have hyes := h.yes
  have hnd := h.ok.nodup
  subst hD
  refine hp.trans (perm_strKeys hpw (fun q hq => by obtain ⟨v, hv⟩ := hko q hq; obtain ⟨x, _, hx, _⟩ := Maps.keyOf_str Tryz.underlying9 hv; exact ⟨x, hx⟩) ?_ (fun x => ?_)).symm
  · exact List.pairwise_map.2 (hnd.imp fun hab e => hab (ByteArray.ext (Array.toList_inj.1 e)))
  · constructor
    · intro hx
      obtain ⟨n, hn, rfl⟩ := List.mem_map.1 hx
      have hh : hasU B n = true := (hasL_iff _ _).2 hn
      exact Maps.has_true_of_atKey (hyes n hh)
    · intro hx
      by_cases hh : hasU B (byB x) = true
      · exact List.mem_map.2 ⟨byB x, (hasL_iff _ _).1 hh, rfl⟩
      · have := hno (byB x) (by simpa using hh)
        exact absurd hx (by rw [show (Lit.string x) = keyB (byB x) from rfl, this]; decide)
theorem names_sorted (h : StU w p m nn D blk B) {ss : List (List UInt8)} (hp : ss.Perm (strKeys D)) : NamesOf B ((ss.mergeSort leU).map byB) := by
  have hq := (List.mergeSort_perm ss leU).trans (names_perm h hp)
  have tr : ∀ a b c : List UInt8, leU a b = true → leU b c = true → leU a c = true := fun a b c h1 h2 => by simp only [leU, decide_eq_true_eq] at *; exact List.le_trans h1 h2
  have to : ∀ a b : List UInt8, (leU a b || leU b a) = true := fun a b => by simp only [leU, Bool.or_eq_true, decide_eq_true_eq]; exact List.le_total a b
  have hs := List.pairwise_mergeSort tr to ss
  have hnd : (ss.mergeSort leU).Nodup := hq.nodup_iff.2 (List.pairwise_map.2 (h.ok.nodup.imp fun hab e => hab (ByteArray.ext (Array.toList_inj.1 e))))
  generalize ss.mergeSort leU = ms at *
  refine ⟨by rw [List.length_map, hq.length_eq, List.length_map]; unfold namesU; rw [List.length_map], fun x hx => ?_, fun i hi => ?_⟩
  · obtain ⟨y, hy, rfl⟩ := List.mem_map.1 hx
    obtain ⟨n, hn, rfl⟩ := List.mem_map.1 (hq.mem_iff.1 hy)
    exact (hasL_iff _ _).2 hn
  · rw [List.length_map] at hi
    have hi0 : i < ms.length := by omega
    have g1 : (ms.map byB).getD i ⟨#[]⟩ = byB ms[i] := by rw [List.getD_eq_getElem?_getD, List.getElem?_map, List.getElem?_eq_getElem hi0]; rfl
    have g2 : (ms.map byB).getD (i + 1) ⟨#[]⟩ = byB ms[i + 1] := by rw [List.getD_eq_getElem?_getD, List.getElem?_map, List.getElem?_eq_getElem hi]; rfl
    rw [g1, g2, Proofs.bytesLess_eq, Lib.toList_data, Lib.toList_data]
    have h1 := List.pairwise_iff_getElem.1 hs i (i + 1) hi0 hi (by omega)
    have h2 := List.pairwise_iff_getElem.1 hnd i (i + 1) hi0 hi (by omega)
    simp only [leU, decide_eq_true_eq] at h1
    refine decide_eq_true ?_
    show ms[i] < ms[i + 1]
    rcases List.le_iff_lt_or_eq.1 h1 with h3 | h3
    · exact h3
    · exact absurd h3 h2
theorem names_cells (l : List (List UInt8)) : l.map Go.Proofs.encStr = cellsT (l.map byB) := by
  unfold cellsT
  rw [List.map_map]
  rfl

set_option maxHeartbeats 1000000 in
theorem names_U (h : StU w p m nn D blk B) : Calls Tryz.prog 12 #[.pointer (some ⟨p, 0, none⟩)] w fun e w' => ∃ v L, e = .returned v ∧ NamesOf B L ∧ OwnT w' w.heap.size v L ∧ Below w.heap.size w w' := by
  have hc := h.hd.cellAt (j := 0) rfl
  have hsz := h.mp.size_le
  have hnn := h.nn
  have HS : Hid (∀ ss : List (List UInt8), ss.Perm (strKeys D) → NamesOf B ((ss.mergeSort leU).map byB)) := fun ss hp => names_sorted h hp
  have HZ : Hid (∀ L : List ByteArray, NamesOf B L → L.length ≤ 20 ∧ ∀ i, i < L.length → (L.getD i ⟨#[]⟩).size ≤ 20) := fun L hL => by
    refine ⟨by rw [hL.len]; exact h.ok.len, fun i hi => ?_⟩
    have hm : L.getD i ⟨#[]⟩ ∈ L := by rw [List.getD_eq_getElem?_getD, List.getElem?_eq_getElem hi]; exact List.getElem_mem hi
    generalize L.getD i ⟨#[]⟩ = x at *
    have hh := hL.each _ hm
    have h1 := (h.ok.each _ (List.mem_of_getElem? (atU_get hh))).1
    rw [atU_name hh] at h1
    unfold userOkU nameOkU at h1
    simp at h1
    omega
  have PK : Hid _ := fun w1 => callsIn_wide.1 (Tryz.maps_Keys_29 (some m) w1)
  have PS : Hid _ := fun (_ : Unit) => callsIn_wide.1 (Tryz.slices_Sorted_keys_28_29 m nn D RefB0 w h.mp (by unfold maxLen; omega) (by omega))
  obtain ⟨i0, hi0, hz0, hz1, hz2⟩ := info_parts infoT
  clear h hsz hnn
  go_enter Tryz.func12, Tryz.ntmps12
  go_wp2_with fail
  with_reducible refine (PK.out _).mono ?_
  rintro e w' ⟨rfl, rfl⟩
  go_wp2_with fail
  with_reducible refine (PS.out ()).mono ?_
  rintro e w1 ⟨v, ss, rfl, hS, hrow, hnil, hb⟩
  have hN := HS.out ss hS
  obtain ⟨hl, hl2⟩ := HZ.out _ hN
  have hO : OwnT w1 (w.alloc (.cells #[.map (some m)] 62)).heap.size v ((ss.mergeSort leU).map byB) := by
    unfold OwnT
    rw [← names_cells, List.length_map, List.length_mergeSort]
    exact hrow
  have hb1 : Below w.heap.size w w1 := ((Below.refl _ w).alloc (Nat.le_refl _) _).trans (hb.mono (by simp))
  clear PK PS HS HZ hS hrow hnil hb hc
  generalize (ss.mergeSort leU).map byB = L at *
  obtain ⟨ao, cap, rfl⟩ := hO.shape
  have HN : Hid _ := hN
  have HL2 : Hid _ := hl2
  clear hN hl2
  go_wp2_with fail
  go_loopw [3, 15] (fun v i wr => ∃ k : Nat, k ≤ L.length ∧ i = .int .i64 k ∧ OwnT wr w1.heap.size v (L.take k) ∧ Below w1.heap.size w1 wr) (fun _ i _ => L.length - (intOf i).toNat)
  case atStart => exact ⟨0, Nat.zero_le _, rfl, ⟨rfl, Or.inl ⟨rfl, rfl⟩⟩, Below.refl _ _⟩
  case round =>
    obtain ⟨k, hk, rfl, hown, hbel⟩ := hrel
    by_cases hlt : k < L.length
    · have dlt : decide ((k : Int) < ((L.length : Nat) : Int)) = true := decide_eq_true (by omega)
      have j0 : (0 : Int) ≤ (k : Int) := by omega
      have j1 : (k : Int) < ((L.length : Nat) : Int) := by omega
      obtain ⟨g, cap', ev, hg1, hg2⟩ := hO.form (by omega)
      obtain rfl : ao = some ⟨g, 0, none⟩ := by injection ev
      have hck := ((hO.below hbel).cell rfl k hlt)
      have hz := HL2.out k hlt
      have HT : Hid (L.take (k + 1) = L.take k ++ [L.getD k ⟨#[]⟩]) := by
        show L.take (k + 1) = _
        rw [List.take_add_one, List.getD_eq_getElem?_getD, List.getElem?_eq_getElem hlt]
        rfl
      have hlen : (L.take k).length = k := by rw [List.length_take]; omega
      generalize L.getD k ⟨#[]⟩ = X at *
      have PC : Hid _ := fun w1 => strings_cloneU X w1 (by omega)
      clear hz ev
      have HO : Hid _ := hown
      clear hown
      obtain ⟨a2, c2, rfl⟩ : ∃ a c, u3 = .slice a k c := by
        have := OwnT.shape HO.out
        rw [hlen] at this
        exact this
      go_wp2_with fail
      with_reducible refine (PC.out _).mono ?_
      rintro e w2 ⟨rfl, b2⟩
      have hown' : w2.ownsRow w1.heap.size 9 1 (.slice a2 k c2) k (cellsT (L.take k)) := by have := OwnT.below HO.out b2; unfold OwnT at this; rwa [hlen] at this
      have hbel2 := hbel.trans (b2.mono hbel.size)
      clear b2 hck
      go_wp2_with (first | (at_builtin; refine wpList_append_two _ rfl (.tmp 19) (.tmp 22) 47 rfl w1.heap.size 9 i0 (.string ⟨#[]⟩) 1 16 Tryz.underlying47 hi0 hz0 hz1 hz2 rfl (by decide) (.slice a2 k c2) k (cellsT (L.take k)) rfl (World.ownsRow.alloc hown' _) ⟨w2.heap.size, 0, none⟩ 1 1 (cellsT [X]) rfl rfl (World.news_of_block (heap_alloc_new w2 _)) (cellsT_one _) (by unfold maxLen; omega) (by omega) (by have := hbel2.size; simp; omega) ?_))
      intro v' w3 ho3 hg3 hat3
      go_wp2
      go_roundw
      case rel =>
        refine ⟨k + 1, by omega, by go_num, ?_, ?_⟩
        · unfold OwnT
          rw [HT.out, cellsT_append, List.length_append, hlen]
          exact ho3
        · have hs2 := hbel2.size
          exact (hbel2.alloc (by omega) _).grown hg3 (by simp; omega) (fun j hj => (hown'.lt j hj).1)
      case measure => simp [intOf]; omega
    · have dlt : decide ((k : Int) < ((L.length : Nat) : Int)) = false := decide_eq_false (by omega)
      obtain rfl : k = L.length := by omega
      rw [List.take_length] at hown
      have hbw : Below w.heap.size w wr := hb1.trans (hbel.mono hb1.size)
      have hbase := hown.base hb1.size
      have HO : Hid _ := hbase
      clear hown hbase hO
      go_wp2
      go_ret
      exact ⟨_, L, rfl, HN.out, HO.out, hbw⟩
end

end Go.Proofs.YtjemklgfenciaaaGreat

/-
  Package users keeps its contract.
-/
namespace Go.Proofs.YtjemklgfenciaaaGreat
open Go.RowKit
set_option linter.unusedVariables false
set_option maxRecDepth 100000
set_option linter.unusedSimpArgs false

def AtU (w : World) (bl : Nat → Prop) (p : Nat) (B : List Usr) : Prop := ∃ m nn D blk, StU w p m nn D blk B ∧ ∀ k, bl k ↔ blocksU p m blk B k
theorem AtU.lt {w : World} {bl : Nat → Prop} {p : Nat} {B : List Usr} (h : AtU w bl p B) (k : Nat) (hk : bl k) : k < w.heap.size := by
  obtain ⟨m, nn, D, blk, hs, hb⟩ := h
  exact hs.lt k ((hb k).1 hk)
theorem AtU.keep {S : Nat → Prop} {w w' : World} {bl : Nat → Prop} {p : Nat} {B : List Usr} (h : AtU w bl p B) (ht : Touch S w w') (hn : ∀ k, bl k → ¬ S k) : AtU w' bl p B := by
  obtain ⟨m, nn, D, blk, hs, hb⟩ := h
  exact ⟨m, nn, D, blk, hs.keep ht (fun k hk => hn k ((hb k).2 hk)), hb⟩
theorem AtU.same {w w' : World} {bl : Nat → Prop} {p : Nat} {B : List Usr} (h : AtU w bl p B) (hb : Below w.heap.size w w') : ∃ bl', AtU w' bl' p B ∧ (∀ k, bl' k → bl k ∨ w.heap.size ≤ k) ∧ Touch bl w w' :=
  ⟨bl, h.keep (Touch.of_below (S := fun _ => False) hb) (fun _ _ x => x), fun k hk => Or.inl hk, Touch.of_below hb⟩
theorem AtU.turned {w w' : World} {bl : Nat → Prop} {p m nn : Nat} {D : DataW Unit} {blk : Nat → Nat} {B : List Usr} {n : ByteArray} {u : Usr} (hb : ∀ k, bl k ↔ blocksU p m blk B k) (hs : StU w' p m nn D blk (putU B n u)) (ht : Touch (blocksU p m blk B) w w') :
    ∃ bl', AtU w' bl' p (putU B n u) ∧ (∀ k, bl' k → bl k ∨ w.heap.size ≤ k) ∧ Touch bl w w' := by
  have hl : (putU B n u).length = B.length := by unfold putU; rw [List.length_set]
  refine ⟨bl, ⟨m, nn, D, blk, hs, fun k => ?_⟩, fun k hk => Or.inl hk, ht.mono (fun k _ hk => (hb k).2 hk)⟩
  rw [hb k]
  unfold blocksU
  rw [hl]

def usersKeeps : UsersKeeps where
  At := AtU
  ok := fun ⟨_, _, _, _, hs, _⟩ => hs.ok
  lt := AtU.lt
  keep := AtU.keep
  right := right_U
  newOk := fun w oa n c X hx hn hz hok => by
    refine (new_U w oa n c X hx hn hz).mono ?_
    rintro e w' (⟨_, p, m, rfl, hN⟩ | ⟨hno, _⟩)
    · obtain ⟨nn, D, blk, _, hs, hb⟩ := hN.st
      exact ⟨blocksU p m blk (freshU (listU X n)), p, rfl, ⟨m, nn, D, blk, hs, fun _ => Iff.rfl⟩, hb, hN.bel⟩
    · rw [hok] at hno; cases hno
  newNo := fun w oa n c X hx hn hz hno => by
    refine (new_U w oa n c X hx hn hz).mono ?_
    rintro e w' (⟨hok, _⟩ | ⟨_, rfl, hb⟩)
    · rw [hno] at hok; cases hok
    · exact ⟨rfl, hb⟩
  secretYes := fun w bl p B n h hn hh => by
    obtain ⟨m, nn, D, blk, hs, hb⟩ := h
    refine (secret_yesU hs hn hh).mono ?_
    rintro e w' ⟨rfl, hbel⟩
    exact ⟨rfl, AtU.same ⟨m, nn, D, blk, hs, hb⟩ hbel⟩
  secretNo := fun w bl p B n h hn hh => by
    obtain ⟨m, nn, D, blk, hs, hb⟩ := h
    refine (secret_noU hs hn hh).mono ?_
    rintro e w' ⟨rfl, rfl⟩
    exact ⟨⟨_, rfl⟩, AtU.same ⟨m, nn, D, blk, hs, hb⟩ (Below.refl _ _)⟩
  fail := fun w bl p B n now h hn hw => by
    obtain ⟨m, nn, D, blk, hs, hb⟩ := h
    by_cases hh : hasU B n = true
    · refine (fail_yesU hs hn hh now hw).mono ?_
      rintro e w' ⟨rfl, hs', ht⟩
      rw [show failT B n = lastU (atU B n) by unfold failT; rw [hh]; rfl, show failB B n now = putU B n (failU (atU B n) now) by unfold failB; rw [if_pos hh]]
      exact ⟨rfl, AtU.turned hb hs' ht⟩
    · have hh2 : hasU B n = false := by simpa using hh
      refine (fail_noU hs hn hh2 now).mono ?_
      rintro e w' ⟨rfl, rfl⟩
      rw [show failT B n = false by unfold failT; rw [hh2]; rfl, show failB B n now = B by unfold failB; rw [if_neg hh]]
      exact ⟨rfl, AtU.same ⟨m, nn, D, blk, hs, hb⟩ (Below.refl _ _)⟩
  good := fun w bl p B n h hn => by
    obtain ⟨m, nn, D, blk, hs, hb⟩ := h
    by_cases hh : hasU B n = true
    · refine (good_yesU hs hn hh).mono ?_
      rintro e w' ⟨rfl, hs', ht⟩
      rw [show goodB B n = putU B n (goodU (atU B n)) by unfold goodB; rw [if_pos hh]]
      exact ⟨rfl, AtU.turned hb hs' ht⟩
    · have hh2 : hasU B n = false := by simpa using hh
      refine (good_noU hs hn hh2).mono ?_
      rintro e w' ⟨rfl, rfl⟩
      rw [show goodB B n = B by unfold goodB; rw [if_neg hh]]
      exact ⟨rfl, AtU.same ⟨m, nn, D, blk, hs, hb⟩ (Below.refl _ _)⟩
  locked := fun w bl p B n now h hn hw => by
    obtain ⟨m, nn, D, blk, hs, hb⟩ := h
    by_cases hh : hasU B n = true
    · refine (locked_yesU hs hn hh now).mono ?_
      rintro e w' ⟨rfl, rfl⟩
      rw [show lockedT B n now = ((atU B n).locked && decide (now ≤ (atU B n).till)) by unfold lockedT; rw [hh]; rfl]
      exact ⟨rfl, AtU.same ⟨m, nn, D, blk, hs, hb⟩ (Below.refl _ _)⟩
    · have hh2 : hasU B n = false := by simpa using hh
      refine (locked_noU hs hn hh2 now).mono ?_
      rintro e w' ⟨rfl, rfl⟩
      rw [show lockedT B n now = false by unfold lockedT; rw [hh2]; rfl]
      exact ⟨rfl, AtU.same ⟨m, nn, D, blk, hs, hb⟩ (Below.refl _ _)⟩
  fails := fun w bl p B n h hn => by
    obtain ⟨m, nn, D, blk, hs, hb⟩ := h
    by_cases hh : hasU B n = true
    · refine (fails_yesU hs hn hh).mono ?_
      rintro e w' ⟨rfl, rfl⟩
      rw [show failsN B n = (atU B n).fails by unfold failsN; rw [if_pos hh]]
      exact ⟨rfl, AtU.same ⟨m, nn, D, blk, hs, hb⟩ (Below.refl _ _)⟩
    · have hh2 : hasU B n = false := by simpa using hh
      refine (fails_noU hs hn hh2).mono ?_
      rintro e w' ⟨rfl, rfl⟩
      rw [show failsN B n = 0 by unfold failsN; rw [if_neg hh]]
      exact ⟨rfl, AtU.same ⟨m, nn, D, blk, hs, hb⟩ (Below.refl _ _)⟩
  names := fun w bl p B h => by
    obtain ⟨m, nn, D, blk, hs, hb⟩ := h
    refine (names_U hs).mono ?_
    rintro e w' ⟨v, L, rfl, hN, hO, hbel⟩
    obtain ⟨bl', hA, h1, h2⟩ := AtU.same ⟨m, nn, D, blk, hs, hb⟩ hbel
    refine ⟨v, L, bl, rfl, hN, hO, ?_, fun k hk => ⟨Or.inl hk, fun e => ?_⟩, h2⟩
    · exact AtU.keep ⟨m, nn, D, blk, hs, hb⟩ (Touch.of_below (S := fun _ => False) hbel) (fun _ _ x => x)
    · have h3 := (World.ownsRow.lt hO k e).1
      have h4 := hs.lt k ((hb k).1 hk)
      omega
  secretNil := fun w n _ => secretNil_U w n
  failNil := fun w n now _ _ => failNil_U w n now
  goodNil := fun w n _ => goodNil_U w n
  lockedNil := fun w n now _ _ => lockedNil_U w n now
  failsNil := fun w n _ => failsNil_U w n
  namesNil := namesNil_U

end Go.Proofs.YtjemklgfenciaaaGreat
