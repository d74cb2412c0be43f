/-
  The landed program's entries out of its map, in order; a disk's room and its nodes.
-/
import Derived.Test.YtkibddcjogfklaaGreatDoorIkQ
import Derived.Test.YtkibddcjogfklaaGreatDoorIter
import Derived.Test.YtkibddcjogfklaaGreatDoorDkS
namespace Go.Proofs.YtkibddcjogfklaaGreatDoor.ik
open Go.RowKit Go.Maps Go.WideMaps
open kit strs recs disk deed kd

theorem keys_enc (l : List Ent) : (keysE l).map Go.Proofs.encStr = (names l).map Value.string := by
  unfold keysE names
  rw [List.map_map, List.map_map]
  rfl

set_option maxHeartbeats 2000000 in
set_option maxRecDepth 100000 in
theorem implEntries (b n : Nat) (l : List Ent) (w : World) (hn : n ≤ 100000000) (h : MapE w b n l) :
    Calls Tryz.prog 64 #[.map (some b)] w fun e w' => ∃ v, e = .returned v ∧ OwnE w.heap.size w' v l ∧ Below w.heap.size w w' := by
  obtain ⟨i0, hi, hz0, hz1, hz2⟩ := info_parts Tryz.infoEnt
  have h0 := h
  obtain ⟨D, ho, hr, hs⟩ := h
  have hsz := hr.size hs ho lawS Tryz.underlying9
  have hle := ho.size_le
  have hperm := hr.perm hs ho lawS Tryz.underlying9
  have hkl := strKeys_le ho Tryz.underlying9
  have CK := Lib.hid ((callsIn_wide (n := 5)).1 (Tryz.maps_Keys_74 (some b) w))
  have CS := Lib.hid ((callsIn_wide (n := 5)).1 (Tryz.slices_Sorted_keys_73_74 b n D _ w ho (by unfold maxLen; omega) (by omega)))
  have HL := Lib.hid (show l.length ≤ n by omega)
  have HP := Lib.hid (show (∀ ss : List (List UInt8), ss.Perm (strKeys D) → (ss.mergeSort (fun x y => decide (x ≤ y))).map Go.Proofs.encStr = (names l).map Value.string ∧ ss.length = l.length) from fun ss hp => by
    have hp2 := hp.trans hperm.symm
    refine ⟨by rw [← keys_enc]; exact congrArg _ (sorted_keys hs hp2), ?_⟩
    rw [hp2.length_eq]
    unfold keysE
    rw [List.length_map])
  have HN := Lib.hid (show ∀ e ∈ l, e.1.size ≤ maxLen from fun e he => by
    have := hkl e.1.data.toList (hperm.subset (by unfold keysE; exact List.mem_map_of_mem he))
    rw [Array.length_toList] at this
    exact this)
  have HM := Lib.hid h0
  have HS := Lib.hid hs
  clear h0 ho hr hs hsz hle hperm hkl
  go_enter Tryz.func64, Tryz.ntmps64
  go_wp2_with (fail)
  refine CK.out.mono ?_
  rintro e w' ⟨rfl, rfl⟩
  go_wp2_with (fail)
  refine CS.out.mono ?_
  rintro e w1 ⟨v, ss, rfl, hS, hrow, hnil, hb1⟩
  obtain ⟨hlist, hlen⟩ := HP.out ss hS
  rw [hlist, hlen] at hrow
  have hwb : Below w.heap.size w w1 := ((Below.refl w.heap.size w).alloc (Nat.le_refl _) (.cells #[.map (some b)] 69)).trans (hb1.mono (by simp))
  have HB1 := Lib.hid hwb
  obtain ⟨a, c, rfl, _, _⟩ := own_shape hrow
  have HA := Lib.hid (strs.At.of_own hrow)
  have hbl : w.heap.size ≤ w1.heap.size := hwb.size
  clear hS hrow hnil hb1 hwb hlist hlen
  go_wp2
  go_loopw [3, 10] (fun o i wr => ∃ k : Nat, k ≤ l.length ∧ i = .int .i64 k ∧ wr.ownsRow w1.heap.size 66 2 o k (cellsE (l.take k)) ∧ Below w1.heap.size w1 wr) (fun _ i _ => l.length - (intOf i).toNat)
  case atStart => exact ⟨0, Nat.zero_le _, rfl, World.ownsRow_nil _ _ _ _, Below.refl _ _⟩
  case round =>
    obtain ⟨k, hk, rfl, hown, hb⟩ := hrel
    by_cases hlt : k < l.length
    · obtain ⟨e, hx⟩ : ∃ e, l[k]? = some e := ⟨_, List.getElem?_eq_getElem hlt⟩
      obtain ⟨t, i⟩ := e
      have hnx : (names l)[k]? = some t := by unfold names; rw [List.getElem?_map, hx]; rfl
      obtain ⟨t', g, o, hnx', rfl, hg, hcell⟩ := strAt (HA.out.below hb) hlt
      obtain rfl : t = t' := by rw [hnx] at hnx'; simpa using hnx'
      clear hnx'
      have ht : t.size ≤ maxLen := HN.out _ (List.mem_of_getElem? hx)
      have hmw := (HM.out.below HB1.out).below hb
      have hid : idE l t = i := by unfold idE; rw [mem_at HS.out (List.mem_of_getElem? hx)]; rfl
      have hlk := (hmw.look ht).1
      rw [hid] at hlk
      have HX := Lib.hid (show l.take (k + 1) = l.take k ++ [(t, i)] by rw [List.take_add_one, hx]; rfl)
      have j0 : (0 : Int) ≤ (k : Int) := by omega
      have j1 : (k : Int) < (l.length : Int) := by omega
      have hkn := HL.out
      clear hx hnx hmw hid
      go_wp2_with (at_builtin; refine list_appN (by rfl) (.tmp 14) (.tmp 20) 30 (by rfl) w1 wr 66 i0 (.agg #[.string { data := #[] }, .int .i64 0]) 2 24 Tryz.underlying30 hi hz0 hz1 hz2 (by rfl) (by decide) _ k _ hown hb [.string t, .int .i64 i] 1 ?_ ?_ ?_ ?_ (by rfl) (by rfl) (by rfl) ?_ ?_; rfl; exact two_one t i; unfold maxLen; omega; omega; exact ⟨rfl, rfl, rfl⟩; intro v' w' hown' hb')
      go_roundw
      case rel => exact ⟨k + 1, by omega, by go_num, by rw [HX.out, cellsE_app]; exact hown', hb'⟩
      case measure => simp [intOf]; omega
    · obtain rfl : k = l.length := by omega
      rw [List.take_length] at hown
      go_wp2
      go_ret
      exact ⟨_, rfl, ⟨_, own_base hown hbl⟩, HB1.out.trans (hb.mono hbl)⟩

end Go.Proofs.YtkibddcjogfklaaGreatDoor.ik

namespace Go.Proofs.YtkibddcjogfklaaGreatDoor.disk
open Go.RowKit
open kit strs recs

/-- the place of a name -/
def entIx : List Ent → ByteArray → Option Nat
  | [], _ => none
  | e :: r, s => if e.1 = s then some 0 else (entIx r s).map (· + 1)
theorem entIx_yes {xs : List Ent} {s t : ByteArray} {i : Int} {k : Nat} (h : xs[k]? = some (t, i)) (e : t = s) : entIx (xs.drop k) s = some 0 := by rw [drop_cons h]; simp [entIx, e]
theorem entIx_no {xs : List Ent} {s t : ByteArray} {i : Int} {k : Nat} (h : xs[k]? = some (t, i)) (e : ¬ t = s) : entIx (xs.drop k) s = (entIx (xs.drop (k + 1)) s).map (· + 1) := by rw [drop_cons h]; simp [entIx, e]
theorem entIx_none : ∀ {xs : List Ent} {s : ByteArray}, entIx xs s = none → entAt xs s = none
  | [], s, _ => rfl
  | e :: r, s, h => by
    unfold entIx at h
    unfold entAt
    by_cases hs : e.1 = s
    · rw [if_pos hs] at h; cases h
    · rw [if_neg hs] at h ⊢
      exact entIx_none (by simpa using h)
theorem entIx_some : ∀ {xs : List Ent} {s : ByteArray} {k : Nat}, entIx xs s = some k → ∃ e, xs[k]? = some e ∧ entAt xs s = some e.2
  | [], s, k, h => by cases h
  | e :: r, s, k, h => by
    unfold entIx at h
    unfold entAt
    by_cases hs : e.1 = s
    · rw [if_pos hs] at h ⊢
      simp only [Option.some.injEq] at h
      subst h
      exact ⟨e, rfl, rfl⟩
    · rw [if_neg hs] at h ⊢
      cases hr : entIx r s with
      | none => rw [hr] at h; cases h
      | some j =>
        rw [hr] at h
        simp only [Option.map_some, Option.some.injEq] at h
        subst h
        obtain ⟨e', h1, h2⟩ := entIx_some hr
        exact ⟨e', by simpa using h1, h2⟩

end Go.Proofs.YtkibddcjogfklaaGreatDoor.disk

namespace Go.Proofs.YtkibddcjogfklaaGreatDoor.disk
open Go.RowKit
open kit strs recs

theorem nodeAt_ix {d : D} {s : ByteArray} {en : Ent} (h : entAt d.ents s = some en.2) : nodeAt d s = match nodeIx d.nodes en.2 with | none => none | some k => d.nodes[k]? := by
  unfold nodeAt
  simp only [h]
  cases nodeIx d.nodes en.2 <;> rfl

set_option maxHeartbeats 400000 in
theorem implUsedOn (v : Value) (d : D) (w : World) (hb : usedOn d ≤ 9223372036854775807) (hd : wfD d) (hv : IsDisk w v d) :
    Calls Tryz.prog 60 #[v] w fun e w' => e = .returned (.int .i64 (usedOn d : Nat)) ∧ Below w.heap.size w w' := by
  obtain ⟨_, _, _, _, _, _, hm, _, _, _⟩ := hd
  obtain ⟨aN, aE, aO, aS, n, cN, nE, cE, nO, cO, nS, cS, rfl, hN, hE, hO, hS⟩ := hv
  rw [hN.len] at hm
  unfold maxLen at hm
  have HN := Lib.hid (hN.below (w' := w.alloc (.cells #[.slice aN n cN, .slice aE nE cE, .slice aO nO cO, .slice aS nS cS, .int .i64 d.room, .int .i64 d.next] 32)) ((Below.refl _ _).alloc (Nat.le_refl _) _))
  have HU := Lib.hid (show usedOn d = tot (d.nodes.map (·.2.1)) from rfl)
  rw [HU.out] at hb
  clear hN hE hO hS
  go_enter Tryz.func60, Tryz.ntmps60
  go_wp2
  obtain ⟨W, hW⟩ : ∃ W, W = w.alloc (.cells #[.slice aN n cN, .slice aE nE cE, .slice aO nO cO, .slice aS nS cS, .int .i64 d.room, .int .i64 d.next] 32) := ⟨_, rfl⟩
  have hB := Lib.hid (show Below w.heap.size w W by rw [hW]; exact (Below.refl _ _).alloc (Nat.le_refl _) _)
  rw [← hW] at HN ⊢
  clear hW
  go_loopw [3, 9] (fun x i wr => ∃ k m : Nat, k ≤ n ∧ i = .int .i64 k ∧ x = .int .i64 m ∧ Hid (m = tot ((d.nodes.map (·.2.1)).take k)) ∧ Below W.heap.size W wr) (fun _ i _ => n - (intOf i).toNat)
  case atStart => exact ⟨0, 0, Nat.zero_le _, rfl, rfl, Lib.hid (by simp [tot]), Below.refl _ _⟩
  case round =>
    obtain ⟨k, m, hk, rfl, rfl, hf, hbl⟩ := hrel
    by_cases hlt : k < n
    · obtain ⟨i, t, j, g, o, hx, rfl, hg, c1, c2, c3⟩ := (HN.out.below hbl).get hlt
      have i0 : (0 : Int) ≤ (k : Int) := by omega
      have i1 : (k : Int) < (n : Int) := by omega
      have hsn := tot_snoc (d.nodes.map (·.2.1)) k t (by rw [List.getElem?_map, hx]; rfl)
      have hle := tot_le (d.nodes.map (·.2.1)) (k + 1)
      have hf1 := hf.out
      have hsum : m + t.size ≤ 9223372036854775807 := by omega
      have HF := Lib.hid (show m + t.size = tot ((d.nodes.map (·.2.1)).take (k + 1)) by omega)
      clear hx hsn hle hf1
      have j0 : (0 : Int) ≤ (m : Int) + (t.size : Int) := by omega
      have j1 : (m : Int) + (t.size : Int) ≤ 9223372036854775807 := by omega
      have hbl2 := hbl.alloc hbl.size (.cells #[.int .i64 i, .string t, .int .i64 j] 41)
      go_wp2
      go_roundw
      case rel => exact ⟨k + 1, m + t.size, by omega, by go_num, by go_num, HF, hbl2⟩
      case measure => simp [intOf]; omega
    · obtain rfl : k = n := by omega
      have HE := Lib.hid (show usedOn d = m by rw [HU.out, hf.out, List.take_of_length_le (by rw [List.length_map, HN.out.len]; exact Nat.le_refl _)])
      go_wp2
      go_ret
      exact ⟨by rw [HE.out]; rfl, hB.out.trans (hbl.mono hB.out.size)⟩

end Go.Proofs.YtkibddcjogfklaaGreatDoor.disk

namespace Go.Proofs.YtkibddcjogfklaaGreatDoor.ik
open Go.RowKit
open kit strs recs disk deed kd

theorem head_is {d : D} (h : d.nodes.length ≤ 64) : okHead d = (decide (0 ≤ d.room ∧ d.room ≤ 1000000000) && decide (1 ≤ d.next ∧ d.next ≤ 1000000000) && decide ((usedOn d : Int) ≤ d.room)) := by
  unfold okHead
  rw [show decide (d.nodes.length ≤ 64) = true by simpa using h, Bool.true_and]
/-- what is asked of the room alone -/
def spaceOk (d : D) : Bool := decide (0 ≤ d.room ∧ d.room ≤ 1000000000) && decide (1 ≤ d.next ∧ d.next ≤ 1000000000) && decide ((usedOn d : Int) ≤ d.room)
def nodesOk (d : D) : Bool := decide (d.nodes.length ≤ 64) && nodesFrom d.next none d.nodes

set_option maxHeartbeats 4000000 in
set_option maxRecDepth 100000 in
theorem implSpace (v : Value) (d : D) (w : World) (hk : okD d) (hv : IsDisk w v d) :
    Calls Tryz.prog 40 #[v] w fun e w' => e = .returned (.bool (spaceOk d)) ∧ Below w.heap.size w w' := by
  have hv0 := hv
  obtain ⟨aN, aE, aO, aS, nN, cN, nE, cE, nO, cO, nS, cS, rfl, _, _, _, _⟩ := hv
  obtain ⟨W, hW⟩ : ∃ W, W = w.alloc (.cells #[.slice aN nN cN, .slice aE nE cE, .slice aO nO cO, .slice aS nS cS, .int .i64 d.room, .int .i64 d.next] 32) := ⟨_, rfl⟩
  have hWB : Below w.heap.size w W := by rw [hW]; exact (Below.refl _ _).alloc (Nat.le_refl _) _
  have bx := show disk.Box W w.heap.size [.slice aN nN cN, .slice aE nE cE, .slice aO nO cO, .slice aS nS cS, .int .i64 d.room, .int .i64 d.next] from by rw [hW]; exact Box.new _ _ _
  have x4 := bx.at 4 _ rfl
  have x5 := bx.at 5 _ rfl
  have y0 := Later.cell (bx.at 0 _ rfl) bx.1
  have y1 := Later.cell (bx.at 1 _ rfl) bx.1
  have y2 := Later.cell (bx.at 2 _ rfl) bx.1
  have y3 := Later.cell (bx.at 3 _ rfl) bx.1
  have y4 := Later.cell (bx.at 4 _ rfl) bx.1
  have y5 := Later.cell (bx.at 5 _ rfl) bx.1
  have HV := Lib.hid (hv0.below hWB)
  have CU := Lib.hid (fun (x : Later W) => implUsedOn _ d x.val (by have := used_le hk.2; omega) hk.1 (HV.out.below x.2))
  have HB := Lib.hid hWB
  have HU := Lib.hid (used_le hk.2)
  clear hv0 hWB bx hk
  by_cases c2 : (0 ≤ d.room ∧ d.room ≤ 1000000000) ∧ (1 ≤ d.next ∧ d.next ≤ 1000000000)
  · obtain ⟨⟨c21, c22⟩, c31, c32⟩ := c2
    have HE := Lib.hid (show spaceOk d = decide (((usedOn d : Nat) : Int) ≤ d.room) by unfold spaceOk; simp [c21, c22, c31, c32])
    go_enter Tryz.func40, Tryz.ntmps40
    go_wp2
    rw [← hW]
    clear hW
    refine wp_region_later (by kernel_rfl) (by kernel_rfl) ?_
    repeat (first | go_big_quiet_skip | (go_big_quiet_want; go_big_quiet_op; first | go_big_quiet_on | (apply Exists.intro; refine ⟨fun x => ?_, ?_⟩; (first | (go_at_call 60; exact Calls.later (CU.out x))); go_big_quiet_on)))
    refine wpQuiet_nil ?_
    rintro w2 ⟨x2, hx2⟩
    have hb2 : Below W.heap.size W w2 := hx2 ▸ x2.2
    clear hx2 x2
    go_wp2
    go_ret
    exact ⟨by rw [HE.out]; first | rfl | simp, HB.out.trans (hb2.mono HB.out.size)⟩
  · have HE := Lib.hid (show spaceOk d = false by
      unfold spaceOk
      rw [Bool.and_eq_false_iff, Bool.and_eq_false_iff, decide_eq_false_iff_not, decide_eq_false_iff_not]
      rcases Classical.em (0 ≤ d.room ∧ d.room ≤ 1000000000) with h | h
      · exact .inl (.inr (fun h2 => c2 ⟨h, h2⟩))
      · exact .inl (.inl h))
    by_cases a1 : 0 ≤ d.room
    · by_cases a2 : d.room ≤ 1000000000
      · by_cases a3 : 1 ≤ d.next
        · have a4 : ¬ d.next ≤ 1000000000 := fun h => c2 ⟨⟨a1, a2⟩, a3, h⟩
          clear c2
          go_enter Tryz.func40, Tryz.ntmps40
          go_wp2
          rw [← hW]
          clear hW
          refine wp_region_later (by kernel_rfl) (by kernel_rfl) ?_
          repeat (first | go_big_quiet_skip | (go_big_quiet_want; go_big_quiet_op; first | go_big_quiet_on | fail))
          refine wpQuiet_nil ?_
          rintro w2 ⟨x2, hx2⟩
          have hb2 : Below W.heap.size W w2 := hx2 ▸ x2.2
          clear hx2 x2
          go_wp2
          go_ret
          exact ⟨by rw [HE.out]; rfl, HB.out.trans (hb2.mono HB.out.size)⟩
        · clear c2
          go_enter Tryz.func40, Tryz.ntmps40
          go_wp2
          rw [← hW]
          clear hW
          refine wp_region_later (by kernel_rfl) (by kernel_rfl) ?_
          repeat (first | go_big_quiet_skip | (go_big_quiet_want; go_big_quiet_op; first | go_big_quiet_on | fail))
          refine wpQuiet_nil ?_
          rintro w2 ⟨x2, hx2⟩
          have hb2 : Below W.heap.size W w2 := hx2 ▸ x2.2
          clear hx2 x2
          go_wp2
          go_ret
          exact ⟨by rw [HE.out]; rfl, HB.out.trans (hb2.mono HB.out.size)⟩
      · clear c2
        go_enter Tryz.func40, Tryz.ntmps40
        go_wp2
        rw [← hW]
        clear hW
        refine wp_region_later (by kernel_rfl) (by kernel_rfl) ?_
        repeat (first | go_big_quiet_skip | (go_big_quiet_want; go_big_quiet_op; first | go_big_quiet_on | fail))
        refine wpQuiet_nil ?_
        rintro w2 ⟨x2, hx2⟩
        have hb2 : Below W.heap.size W w2 := hx2 ▸ x2.2
        clear hx2 x2
        go_wp2
        go_ret
        exact ⟨by rw [HE.out]; rfl, HB.out.trans (hb2.mono HB.out.size)⟩
    · clear c2
      go_enter Tryz.func40, Tryz.ntmps40
      go_wp2
      rw [← hW]
      clear hW
      refine wp_region_later (by kernel_rfl) (by kernel_rfl) ?_
      repeat (first | go_big_quiet_skip | (go_big_quiet_want; go_big_quiet_op; first | go_big_quiet_on | fail))
      refine wpQuiet_nil ?_
      rintro w2 ⟨x2, hx2⟩
      have hb2 : Below W.heap.size W w2 := hx2 ▸ x2.2
      clear hx2 x2
      go_wp2
      go_ret
      exact ⟨by rw [HE.out]; rfl, HB.out.trans (hb2.mono HB.out.size)⟩

/-- nodes from a number on -/
def idsFrom (next : Int) : Int → List Nod → Bool
  | _, [] => true
  | p, n :: r => decide (p < n.1 ∧ n.1 < next ∧ 0 ≤ n.2.2 ∧ n.2.2 ≤ (n.2.1.size : Int)) && idsFrom next n.1 r
theorem ids_some {next : Int} : ∀ {l : List Nod} {q : Int}, 1 ≤ q → nodesFrom next (some q) l = idsFrom next q l
  | [], _, _ => rfl
  | n :: r, q, hq => by
    unfold nodesFrom idsFrom
    by_cases h : q < n.1
    · rw [ids_some (l := r) (q := n.1) (by omega)]
      congr 1
      rw [Bool.eq_iff_iff]
      simp only [Bool.and_eq_true, decide_eq_true_eq]
      omega
    · simp only []
      rw [show decide (q < n.1) = false by simpa using h, show decide (q < n.1 ∧ n.1 < next ∧ 0 ≤ n.2.2 ∧ n.2.2 ≤ (n.2.1.size : Int)) = false by simp; omega]
      simp
theorem ids_none {next : Int} (l : List Nod) : nodesFrom next none l = idsFrom next 0 l := by
  cases l with
  | nil => rfl
  | cons n r =>
    unfold nodesFrom idsFrom
    by_cases h : 1 ≤ n.1
    · rw [ids_some h]
      congr 1
      simp only []
      rw [Bool.and_true, Bool.eq_iff_iff]
      simp only [Bool.and_eq_true, decide_eq_true_eq]
      omega
    · rw [show decide (1 ≤ n.1 ∧ n.1 ≤ next - 1) = false by simp; omega, show decide (0 < n.1 ∧ n.1 < next ∧ 0 ≤ n.2.2 ∧ n.2.2 ≤ (n.2.1.size : Int)) = false by simp; omega]
      simp
theorem ids_step {next p : Int} {l : List Nod} {k : Nat} {n : Nod} (hx : l[k]? = some n) : idsFrom next p (l.drop k) = (decide (p < n.1 ∧ n.1 < next ∧ 0 ≤ n.2.2 ∧ n.2.2 ≤ (n.2.1.size : Int)) && idsFrom next n.1 (l.drop (k + 1))) := by rw [drop_cons hx]; rfl

set_option maxHeartbeats 4000000 in
set_option maxRecDepth 100000 in
theorem implNodes (v : Value) (d : D) (w : World) (hm : d.nodes.length ≤ 1048576) (hv : IsDisk w v d) :
    Calls Tryz.prog 41 #[v] w fun e w' => e = .returned (.bool (nodesOk d)) ∧ Below w.heap.size w w' := by
  obtain ⟨aN, aE, aO, aS, n, cN, nE, cE, nO, cO, nS, cS, rfl, hN, hE, hO, hS⟩ := hv
  rw [hN.len] at hm
  obtain ⟨W, hW⟩ : ∃ W, W = w.alloc (.cells #[.slice aN n cN, .slice aE nE cE, .slice aO nO cO, .slice aS nS cS, .int .i64 d.room, .int .i64 d.next] 32) := ⟨_, rfl⟩
  have hWB : Below w.heap.size w W := by rw [hW]; exact (Below.refl _ _).alloc (Nat.le_refl _) _
  have bx := show disk.Box W w.heap.size [.slice aN n cN, .slice aE nE cE, .slice aO nO cO, .slice aS nS cS, .int .i64 d.room, .int .i64 d.next] from by rw [hW]; exact Box.new _ _ _
  have x0 := bx.at 0 _ rfl
  have BX := Lib.hid bx
  have HN := Lib.hid (hN.below hWB)
  have HB := Lib.hid hWB
  have HL := Lib.hid hN.len
  clear hN hE hO hS hWB bx
  by_cases h64 : 64 < n
  · have HE := Lib.hid (show nodesOk d = false by unfold nodesOk; rw [show decide (d.nodes.length ≤ 64) = false by rw [HL.out]; simp; omega]; rfl)
    have g1 : (64 : Int) < (n : Int) := by omega
    go_enter Tryz.func41, Tryz.ntmps41
    go_wp2
    go_ret
    first
      | exact ⟨by rw [HE.out]; rfl, HB.out⟩
      | (rw [← hW]; exact ⟨by rw [HE.out]; rfl, HB.out⟩)
  · have HE := Lib.hid (show nodesOk d = idsFrom d.next 0 d.nodes by unfold nodesOk; rw [show decide (d.nodes.length ≤ 64) = true by rw [HL.out]; simp; omega, ids_none]; rfl)
    have g1 : ¬ (64 : Int) < (n : Int) := by omega
    go_enter Tryz.func41, Tryz.ntmps41
    go_wp2
    rw [← hW]
    clear hW
    go_loopw [3, 13] (fun q i wr => ∃ (k : Nat) (p : Int), k ≤ n ∧ i = .int .i64 k ∧ q = .int .i64 p ∧ Hid (nodesOk d = idsFrom d.next p (d.nodes.drop k)) ∧ Below W.heap.size W wr) (fun _ i _ => n - (intOf i).toNat)
    case atStart => exact ⟨0, 0, Nat.zero_le _, rfl, rfl, Lib.hid (by rw [HE.out]; rfl), Below.refl _ _⟩
    case round =>
      obtain ⟨k, p, hk, rfl, rfl, hf, hbl⟩ := hrel
      have x5 := (BX.out.below hbl).at 5 _ rfl
      by_cases hlt : k < n
      · obtain ⟨i, t, j, g, o, hx, rfl, hg, c1, c2, c3⟩ := (HN.out.below hbl).get hlt
        have HF := Lib.hid (hf.out.trans (ids_step hx))
        have i0 : (0 : Int) ≤ (k : Int) := by omega
        have i1 : (k : Int) < (n : Int) := by omega
        have hr1 : Below wr.heap.size wr (wr.alloc (.cells #[.int .i64 i, .string t, .int .i64 j] 41)) := (Below.refl _ _).alloc (Nat.le_refl _) _
        have hb1 := hbl.trans (hr1.mono hbl.size)
        have x5' := (BX.out.below hb1).at 5 _ rfl
        have HB1 := Lib.hid hb1
        clear hx hr1 hb1 hbl hf x5
        by_cases a : p < i ∧ i < d.next ∧ 0 ≤ j ∧ j ≤ (t.size : Int)
        · have HT := Lib.hid (show nodesOk d = idsFrom d.next i (d.nodes.drop (k + 1)) by rw [HF.out]; simp [a])
          obtain ⟨a1, a2, a3, a4⟩ := a
          have b1 : ¬ i ≤ p := by omega
          have b2 : ¬ d.next ≤ i := by omega
          have b3 : ¬ j < 0 := by omega
          have b4 : ¬ (t.size : Int) < j := by omega
          go_wp2
          go_roundw
          case rel => exact ⟨k + 1, i, by omega, by go_num, rfl, HT, HB1.out⟩
          case measure => simp [intOf]; omega
        · have HT := Lib.hid (show nodesOk d = false by rw [HF.out]; simp only [Bool.and_eq_false_iff, decide_eq_false_iff_not]; exact .inl a)
          by_cases a1 : p < i
          · have b1 : ¬ i ≤ p := by omega
            by_cases a2 : i < d.next
            · have b2 : ¬ d.next ≤ i := by omega
              by_cases a3 : 0 ≤ j
              · have b3 : ¬ j < 0 := by omega
                have b4 : (t.size : Int) < j := by omega
                clear a
                go_wp2
                go_ret
                exact ⟨by rw [HT.out]; rfl, HB.out.trans (HB1.out.mono HB.out.size)⟩
              · have b3 : j < 0 := by omega
                clear a a3
                go_wp2
                go_ret
                exact ⟨by rw [HT.out]; rfl, HB.out.trans (HB1.out.mono HB.out.size)⟩
            · have b2 : d.next ≤ i := by omega
              clear a a2
              go_wp2
              go_ret
              exact ⟨by rw [HT.out]; rfl, HB.out.trans (HB1.out.mono HB.out.size)⟩
          · have b1 : i ≤ p := by omega
            clear a a1
            go_wp2
            go_ret
            exact ⟨by rw [HT.out]; rfl, HB.out.trans (HB1.out.mono HB.out.size)⟩
      · obtain rfl : k = n := by omega
        have HT := Lib.hid (show nodesOk d = true by rw [hf.out, drop_end HL.out]; rfl)
        go_wp2
        go_ret
        exact ⟨by rw [HT.out]; rfl, HB.out.trans (hbl.mono HB.out.size)⟩

end Go.Proofs.YtkibddcjogfklaaGreatDoor.ik

namespace Go.Proofs.YtkibddcjogfklaaGreatDoor.ik
open Go.RowKit
open kit strs recs disk deed kd

theorem run_step {d : D} {l : List Ent} {st : List ByteArray} {k : Nat} {s : ByteArray} (hx : st[k]? = some s) : runFrom d l (st.drop k) = (match doStep l s with | none => false | some l' => good d l' && runFrom d l' (st.drop (k + 1))) := by rw [drop_cons hx]; rfl
theorem run_end {d : D} {l : List Ent} {st : List ByteArray} {k : Nat} (h : st.length ≤ k) : runFrom d l (st.drop k) = decide (l = d.ents) := by rw [List.drop_of_length_le h]; rfl
theorem MapE.srt {w : World} {b n : Nat} {l : List Ent} (h : MapE w b n l) : Srt l := by
  obtain ⟨_, _, _, h⟩ := h
  exact h
theorem MapE.len {w : World} {b n : Nat} {l : List Ent} (h : MapE w b n l) : l.length ≤ n := by
  obtain ⟨D, ho, hr, hs⟩ := h
  rw [← hr.size hs ho lawS Tryz.underlying9]
  exact ho.size_le
theorem step_size {d : D} (h : okD d) : ∀ s ∈ d.steps, s.size ≤ 1048576 := fun s hs => by
  have h1 := tot_each d.steps s hs
  have h2 := h.2
  unfold bulk at h2
  omega
theorem name_size {d : D} (h : okD d) : ∀ e ∈ d.old, e.1.size ≤ 1048576 := fun e he => by
  have h1 := tot_each (d.old.map (·.1)) e.1 (List.mem_map.2 ⟨e, he, rfl⟩)
  have h2 := h.2
  unfold bulk bulkE at h2
  omega
theorem box_kept {w w' : World} {g : Nat} {cs : List Value} {row : Option Nat} (h : disk.Box w g cs) (k : w.grownBy w' row) (hne : some g ≠ row) : disk.Box w' g cs := by
  refine ⟨Nat.lt_of_lt_of_le h.1 k.size, fun i v hi => ?_⟩
  rw [← h.2 i v hi]
  unfold World.cell?
  rw [k.block g h.1 hne]

set_option maxHeartbeats 8000000 in
set_option maxRecDepth 100000 in
theorem implSteps (v : Value) (d : D) (w : World) (hk : okD d) (hv : IsDisk w v d) (hs : Srt d.old) (hn : Nok d.old) (hg : GD w) :
    Calls Tryz.prog 43 #[v] w fun e w' => e = .returned (.bool (good d d.old && runFrom d d.old d.steps)) ∧ Below w.heap.size w w' := by
  obtain ⟨l1, l2, l3, l4⟩ := okL_lens (okD.loose hk)
  obtain ⟨aN, aE, aO, aS, nN, cN, nE, cE, nO, cO, nS, cS, rfl, hN, hE, hO, hS⟩ := hv
  obtain ⟨wN, wE, wO, _, _, _, _, m2, _, _⟩ := hk.1
  rw [hN.len] at l1
  rw [hE.len] at l2 m2
  rw [hO.len] at l3
  rw [hS.1] at l4
  obtain ⟨W, hW⟩ : ∃ W, W = w.alloc (.cells #[.slice aN nN cN, .slice aE nE cE, .slice aO nO cO, .slice aS nS cS, .int .i64 d.room, .int .i64 d.next] 32) := ⟨_, rfl⟩
  have hWB : Below w.heap.size w W := by rw [hW]; exact (Below.refl _ _).alloc (Nat.le_refl _) _
  have bx := show disk.Box W w.heap.size [.slice aN nN cN, .slice aE nE cE, .slice aO nO cO, .slice aS nS cS, .int .i64 d.room, .int .i64 d.next] from by rw [hW]; exact Box.new _ _ _
  have x0 := bx.at 0 _ rfl
  have x2 := bx.at 2 _ rfl
  have x3 := bx.at 3 _ rfl
  have BX := Lib.hid bx
  have HE := Lib.hid (hE.below hWB)
  have HSt := Lib.hid (hS.below hWB)
  have HB := Lib.hid hWB
  have HLS := Lib.hid hS.1
  have HGW := Lib.hid (hg.below hWB)
  have HSS := Lib.hid (step_size hk)
  have HNK := Lib.hid hn
  have CI := Lib.hid (implIds aN cN nN d.nodes W (by omega) (hN.below hWB) wN)
  have CO := Lib.hid (fun (w1 : World) (hb : Below W.heap.size W w1) => implNames aO cO nO d.old w1 (by omega) ((hO.below hWB).below hb) wO hs)
  obtain ⟨R, hR⟩ : ∃ R, (good d d.old && runFrom d d.old d.steps) = R := ⟨_, rfl⟩
  rw [hR]
  have HR := Lib.hid hR
  have L1 := Lib.hid l1
  have L3 := Lib.hid l3
  have L4 := Lib.hid l4
  have L2 := Lib.hid m2
  clear hR hN hE hO hS hWB bx hk hs hn hg wN wE wO l1 l2 l3 l4 m2
  go_enter Tryz.func43, Tryz.ntmps43
  go_wp2_with (fail)
  rw [← hW]
  clear hW
  refine CI.out.mono ?_
  rintro e w1 ⟨bN, rfl, hmN, hgeN, hb1⟩
  have y2 := (BX.out.below hb1).at 2 _ rfl
  have y3 := (BX.out.below hb1).at 3 _ rfl
  go_wp2_with (fail)
  refine (CO.out w1 hb1).mono ?_
  rintro e w2 ⟨bO, rfl, hmO, hgeO, hb2⟩
  have hne : bN ≠ bO := by have := hmN.lt; omega
  have hb12 := hb1.trans (hb2.mono hb1.size)
  have hmN2 := hmN.below hb2
  have z3 := (BX.out.below hb12).at 3 _ rfl
  have HgeO := Lib.hid (Nat.le_trans hb1.size hgeO)
  have HgeN := Lib.hid hgeN
  have Hne := Lib.hid hne
  have HmO := Lib.hid hmO
  have HmN := Lib.hid hmN2
  have HB12 := Lib.hid hb12
  clear hmN hmO hmN2 hgeN hgeO hb1 hb2 hne hb12 y2 y3 x0 x2 x3
  go_wp2_with (fail)
  refine (implGood bO nO bN nN d.old d.nodes w2 HmO.out HmN.out).mono ?_
  rintro e w3 ⟨rfl, hb3⟩
  rw [show (decide (d.old.length ≤ 16) && d.old.all fun e => (nodeIx d.nodes e.2).isSome) = good d d.old from rfl]
  have hb13 := HB12.out.trans (hb3.mono HB12.out.size)
  have z3' := (BX.out.below hb13).at 3 _ rfl
  have HmO3 := Lib.hid (HmO.out.below hb3)
  have HmN3 := Lib.hid (HmN.out.below hb3)
  have HB13 := Lib.hid hb13
  clear hb3 hb13 z3
  have z0 : w.heap.size < W.heap.size := BX.out.1
  cases hgd : good d d.old with
  | false =>
    have HF := Lib.hid (show R = false by rw [← HR.out, hgd]; rfl)
    go_wp2
    go_ret
    exact ⟨by rw [HF.out]; rfl, HB.out.trans (HB13.out.mono HB.out.size)⟩
  | true =>
    have HF := Lib.hid (show R = runFrom d d.old (d.steps.drop 0) by rw [← HR.out, hgd]; rfl)
    clear hgd HR
    go_wp2
    go_loopw [20] (fun i wr => ∃ (k : Nat) (l : List Ent), k ≤ nS ∧ i = .int .i64 k ∧ MapE wr bO (nO + k) l ∧ MapN wr bN nN d.nodes ∧ disk.Box wr w.heap.size [.slice aN nN cN, .slice aE nE cE, .slice aO nO cO, .slice aS nS cS, .int .i64 d.room, .int .i64 d.next] ∧ Hid (Nok l) ∧ Hid (R = runFrom d l (d.steps.drop k)) ∧ Below W.heap.size W wr) (fun i _ => nS - (intOf i).toNat)
    case atStart => exact ⟨0, d.old, Nat.zero_le _, rfl, HmO3.out, HmN3.out, BX.out.below HB13.out, HNK, HF, HB13.out⟩
    case round =>
      obtain ⟨k, l, hk, rfl, hmO, hmN, hbx, hnk, hf, hbl⟩ := hrel
      have l3 := L3.out
      have l4 := L4.out
      by_cases hlt : k < nS
      · obtain ⟨s, g, o, hx, rfl, hgl, c1⟩ := deed.strAt (HSt.out.below hbl) hlt
        have hss := HSS.out s (List.mem_of_getElem? hx)
        have HT := Lib.hid (show R = (match doStep l s with | none => false | some l' => good d l' && runFrom d l' (d.steps.drop (k + 1))) from hf.out.trans (run_step hx))
        have hsr := hmO.srt
        have CS := implStep bO (nO + k) l s wr hss (by omega) hmO hnk.out (HGW.out.below hbl)
        have HK := Lib.hid (fun (l' : List Ent) (h : doStep l s = some l') => (doStep_keeps hsr hnk.out h).2)
        obtain ⟨q, hq⟩ : ∃ q, q = doStep l s := ⟨_, rfl⟩
        rw [← hq] at CS HT HK
        have HCS := Lib.hid CS
        have HK1 := Lib.hid (show k + 1 ≤ nS by omega)
        have HMN := Lib.hid hmN
        have HBX := Lib.hid hbx
        have HBL := Lib.hid hbl
        have i0 : (0 : Int) ≤ (k : Int) := by omega
        have i1 : (k : Int) < (nS : Int) := by omega
        have i2 : (k : Int) + 1 ≤ 9223372036854775807 := by omega
        have i3 : (0 : Int) ≤ (k : Int) + 1 := by omega
        have i4 : (k : Int) ≤ 1500000 := by omega
        clear CS hmO hmN hbx hbl hf hnk hsr hx hss hq l3 l4
        go_wp2_with (fail)
        refine HCS.out.mono ?_
        cases q with
        | none =>
          rintro e w4 ⟨he, hmO4, hgr4⟩
          have he : e = .returned (.bool false) := he
          subst he
          have hb4 := HBL.out.grown hgr4 HBL.out.size (fun j hj => by cases hj; exact HgeO.out)
          clear hmO4 hgr4
          go_wp2
          go_ret
          exact ⟨by rw [HT.out]; rfl, HB.out.trans (hb4.mono HB.out.size)⟩
        | some l' =>
          rintro e w4 ⟨he, hmO4, hgr4⟩
          have he : e = .returned (.bool true) := he
          subst he
          have hmO4 : MapE w4 bO (nO + k + 1) l' := hmO4
          have hmN4 := HMN.out.kept hgr4 (fun e => Hne.out (Option.some.inj e))
          have hbx4 := box_kept HBX.out hgr4 (fun e => by have h1 := Option.some.inj e; have h2 := HgeO.out; have h3 := z0; omega)
          have hb4 := HBL.out.grown hgr4 HBL.out.size (fun j hj => by cases hj; exact HgeO.out)
          have HMO4 := Lib.hid hmO4
          have HMN4 := Lib.hid hmN4
          have HBX4 := Lib.hid hbx4
          have HB4 := Lib.hid hb4
          have HT2 := Lib.hid (show R = (good d l' && runFrom d l' (d.steps.drop (k + 1))) from HT.out)
          have HNK2 := Lib.hid (HK.out l' rfl)
          clear hmO4 hmN4 hbx4 hb4 hgr4 HT HK
          go_wp2_with (fail)
          refine (implGood bO (nO + k + 1) bN nN l' d.nodes w4 HMO4.out HMN4.out).mono ?_
          rintro e w5 ⟨rfl, hb5⟩
          rw [show (decide (l'.length ≤ 16) && l'.all fun e => (nodeIx d.nodes e.2).isSome) = good d l' from rfl]
          have HB5 := Lib.hid (HB4.out.trans (hb5.mono HB4.out.size))
          have HMO5 := Lib.hid (HMO4.out.below hb5)
          have HMN5 := Lib.hid (HMN4.out.below hb5)
          have HBX5 := Lib.hid (HBX4.out.below hb5)
          clear hb5
          cases hgd : good d l' with
          | false =>
            have HF2 := Lib.hid (show R = false by rw [HT2.out, hgd]; rfl)
            go_wp2
            go_ret
            exact ⟨by rw [HF2.out]; rfl, HB.out.trans (HB5.out.mono HB.out.size)⟩
          | true =>
            have HF2 := Lib.hid (show R = runFrom d l' (d.steps.drop (k + 1)) by rw [HT2.out, hgd]; rfl)
            clear hgd
            go_wp2
            go_roundw
            case rel =>
              have l4 := L4.out
              have hk1 := HK1.out
              exact ⟨k + 1, l', HK1.out, by go_num, HMO5.out, HMN5.out, HBX5.out, HNK2, HF2, HB5.out⟩
            case measure =>
              have l4 := L4.out
              have hk1 := HK1.out
              simp [intOf]; omega
      · obtain rfl : k = nS := by omega
        have HT := Lib.hid (show R = decide (l = d.ents) from hf.out.trans (run_end (by rw [HLS.out]; exact Nat.le_refl _)))
        have ll := hmO.len
        have v1 := hbx.at 1 _ rfl
        have HMO := Lib.hid hmO
        have HEr := Lib.hid (HE.out.below hbl)
        have HBL := Lib.hid hbl
        have LN := Lib.hid (show nO + k ≤ 100000000 by omega)
        have LL := Lib.hid (show l.length ≤ maxLen by unfold maxLen; omega)
        have zr : w.heap.size < wr.heap.size := Nat.lt_of_lt_of_le z0 hbl.size
        clear hmO hmN hbx hf hnk hbl l3 l4 ll
        go_wp2
        go_region_held3 (fun w' => w'.cell? ⟨w.heap.size, 1, none⟩ = some (.slice aE nE cE)) (first | exact v1 | exact (hb4.cell (p := ⟨w.heap.size, 1, none⟩) zr).trans v1 | exact (hb5.cell (p := ⟨w.heap.size, 1, none⟩) (Nat.lt_of_lt_of_le zr hb4.size)).trans ((hb4.cell (p := ⟨w.heap.size, 1, none⟩) zr).trans v1)) (first | (go_at_call 64; refine (implEntries bO (nO + k) l _ LN.out ?_).mono ?_; exact HMO.out; rintro e w4 ⟨u, rfl, ⟨m, hown⟩, hb4⟩; obtain ⟨al, cl, rfl, _, _⟩ := own_shape hown) | (go_at_call 48; refine (implEqual al aE cl cE m nE l d.ents _ (by have h1 : AtE _ al m l := own_cells hown; rw [← h1.len]; exact LL.out) L2.out (own_cells hown) (HEr.out.below ((Below.refl wr.heap.size wr).drew.trans hb4))).mono ?_; rintro e w5 ⟨rfl, hb5⟩))
        have hbW : Below wr.heap.size wr w5 := (Below.refl wr.heap.size wr).drew.trans (hb4.trans (hb5.mono hb4.size))
        go_wp2
        go_ret
        exact ⟨by rw [HT.out]; rfl, HB.out.trans ((HBL.out.trans (hbW.mono HBL.out.size)).mono HB.out.size)⟩

end Go.Proofs.YtkibddcjogfklaaGreatDoor.ik

namespace Go.Proofs.YtkibddcjogfklaaGreatDoor.ik
open Go.RowKit
open kit strs recs disk deed kd

theorem implOk_parts (d : D) : implOk d = (spaceOk d && nodesOk d && namesFrom { data := #[] } d.old && (good d d.old && runFrom d d.old d.steps)) := by
  unfold implOk spaceOk nodesOk okHead
  generalize decide (d.nodes.length ≤ 64) = a
  generalize decide (0 ≤ d.room ∧ d.room ≤ 1000000000) = b
  generalize decide (1 ≤ d.next ∧ d.next ≤ 1000000000) = c
  generalize decide ((usedOn d : Int) ≤ d.room) = e
  cases a <;> cases b <;> cases c <;> cases e <;> simp

set_option maxHeartbeats 4000000 in
set_option maxRecDepth 100000 in
theorem implDiskOk (v : Value) (d : D) (w : World) (hk : okD d) (hv : IsDisk w v d) (hg : GD w) :
    Calls Tryz.prog 19 #[v] w fun e w' => e = .returned (.bool (diskOk d)) ∧ Below w.heap.size w w' := by
  obtain ⟨l1, l2, l3, l4⟩ := okL_lens (okD.loose hk)
  have ln : d.nodes.length ≤ 1048576 := by
    have h := hk.2
    unfold bulk bulkN at h
    simp only [List.length_map] at h
    omega
  have hv0 := hv
  obtain ⟨aN, aE, aO, aS, nN, cN, nE, cE, nO, cO, nS, cS, rfl, hN, hE, hO, hS⟩ := hv
  obtain ⟨_, _, _, _, _, _, _, _, m3, _⟩ := hk.1
  rw [hO.len] at m3
  obtain ⟨W, hW⟩ : ∃ W, W = w.alloc (.cells #[.slice aN nN cN, .slice aE nE cE, .slice aO nO cO, .slice aS nS cS, .int .i64 d.room, .int .i64 d.next] 32) := ⟨_, rfl⟩
  have hWB : Below w.heap.size w W := by rw [hW]; exact (Below.refl _ _).alloc (Nat.le_refl _) _
  have bx := show disk.Box W w.heap.size [.slice aN nN cN, .slice aE nE cE, .slice aO nO cO, .slice aS nS cS, .int .i64 d.room, .int .i64 d.next] from by rw [hW]; exact Box.new _ _ _
  obtain ⟨R, hR⟩ : ∃ R, R = diskOk d := ⟨_, rfl⟩
  have HR := Lib.hid (hR.trans ((implOk_is d).trans (implOk_parts d)))
  rw [← hR]
  have CS := Lib.hid (implSpace _ d W hk (hv0.below hWB))
  have CN := Lib.hid (fun (w1 : World) (hb : Below W.heap.size W w1) => implNodes _ d w1 ln ((hv0.below hWB).below hb))
  have CM := Lib.hid (fun (w1 : World) (hb : Below W.heap.size W w1) => implNamesRight aO cO nO d.old w1 m3 (name_size hk) ((hO.below hWB).below hb) ((hg.below hWB).below hb).hand)
  have CT := Lib.hid (fun (hs : Srt d.old) (hn : Nok d.old) (w1 : World) (hb : Below W.heap.size W w1) => implSteps _ d w1 hk ((hv0.below hWB).below hb) hs hn ((hg.below hWB).below hb))
  have x0 := bx.at 0 _ rfl
  have x1 := bx.at 1 _ rfl
  have x2 := bx.at 2 _ rfl
  have x3 := bx.at 3 _ rfl
  have x4 := bx.at 4 _ rfl
  have x5 := bx.at 5 _ rfl
  have BX := Lib.hid bx
  have HB := Lib.hid hWB
  clear hN hE hO hS hWB bx hk hv0 hg l1 l2 l3 l4 m3 hR ln
  go_enter Tryz.func19, Tryz.ntmps19
  go_wp2_with (fail)
  rw [← hW]
  clear hW
  refine CS.out.mono ?_
  rintro e w1 ⟨rfl, hb1⟩
  clear x0 x1 x2 x3 x4 x5
  have b1 := BX.out.below hb1
  have x0 := b1.at 0 _ rfl
  have x1 := b1.at 1 _ rfl
  have x2 := b1.at 2 _ rfl
  have x3 := b1.at 3 _ rfl
  have x4 := b1.at 4 _ rfl
  have x5 := b1.at 5 _ rfl
  have HB1 := Lib.hid hb1
  clear b1 hb1
  cases h1 : spaceOk d with
  | false =>
    have HF := Lib.hid (show R = false by rw [HR.out, h1]; rfl)
    go_wp2
    go_ret
    exact ⟨by rw [HF.out]; rfl, HB.out.trans (HB1.out.mono HB.out.size)⟩
  | true =>
    go_wp2_with (fail)
    refine (CN.out w1 HB1.out).mono ?_
    rintro e w2 ⟨rfl, hb2⟩
    have HB2 := Lib.hid (HB1.out.trans (hb2.mono HB1.out.size))
    clear hb2 x0 x1 x2 x3 x4 x5
    have b1 := BX.out.below HB2.out
    have x0 := b1.at 0 _ rfl
    have x1 := b1.at 1 _ rfl
    have x2 := b1.at 2 _ rfl
    have x3 := b1.at 3 _ rfl
    have x4 := b1.at 4 _ rfl
    have x5 := b1.at 5 _ rfl
    clear b1
    cases h2 : nodesOk d with
    | false =>
      have HF := Lib.hid (show R = false by rw [HR.out, h1, h2]; rfl)
      go_wp2
      go_ret
      exact ⟨by rw [HF.out]; rfl, HB.out.trans (HB2.out.mono HB.out.size)⟩
    | true =>
      go_wp2_with (fail)
      refine (CM.out w2 HB2.out).mono ?_
      rintro e w3 ⟨rfl, hb3⟩
      have HB3 := Lib.hid (HB2.out.trans (hb3.mono HB2.out.size))
      clear hb3 x0 x1 x2 x3 x4 x5
      have b1 := BX.out.below HB3.out
      have x0 := b1.at 0 _ rfl
      have x1 := b1.at 1 _ rfl
      have x2 := b1.at 2 _ rfl
      have x3 := b1.at 3 _ rfl
      have x4 := b1.at 4 _ rfl
      have x5 := b1.at 5 _ rfl
      clear b1
      cases h3 : namesFrom { data := #[] } d.old with
      | false =>
        have HF := Lib.hid (show R = false by rw [HR.out, h1, h2, h3]; rfl)
        go_wp2
        go_ret
        exact ⟨by rw [HF.out]; rfl, HB.out.trans (HB3.out.mono HB.out.size)⟩
      | true =>
        have hn := names_srt.1 h3
        have HF := Lib.hid (show R = (good d d.old && runFrom d d.old d.steps) by rw [HR.out, h1, h2, h3]; rfl)
        have CT3 := Lib.hid (CT.out hn.1 hn.2.1 w3 HB3.out)
        clear hn h1 h2 h3
        go_wp2_with (fail)
        refine CT3.out.mono ?_
        rw [← HF.out]
        rintro e w4 ⟨rfl, hb4⟩
        go_wp2
        go_ret
        exact ⟨rfl, HB.out.trans ((HB3.out.trans (hb4.mono HB3.out.size)).mono HB.out.size)⟩

end Go.Proofs.YtkibddcjogfklaaGreatDoor.ik
