/-
  The landed program's maps made out of a disk's lists; whether all names stand for nodes.
-/
import Derived.Test.YtkibddcjogfklaaGreatDoorDrE
import Derived.Maps.RangeWalk
namespace Go.Proofs.YtkibddcjogfklaaGreatDoor.ik
open Go.RowKit Go.Maps Go.WideMaps
open kit strs recs disk deed

theorem ins_last {e : Ent} : ∀ {l : List Ent}, (∀ x ∈ l, lessB x.1 e.1 = true) → insE e l = l ++ [e]
  | [], _ => rfl
  | x :: r, h => by
    unfold insE
    rw [if_pos (h x (List.mem_cons_self ..)), ins_last (fun y hy => h y (List.mem_cons_of_mem _ hy))]
    rfl
theorem take_ins {xs : List Ent} (hs : Srt xs) {k : Nat} {e : Ent} (hx : xs[k]? = some e) : insE e (xs.take k) = xs.take (k + 1) := by
  rw [List.take_add_one, hx, ins_last]
  · rfl
  · intro x hm
    have hk := (List.getElem?_eq_some_iff.1 hx).1
    obtain ⟨j, hj, rfl⟩ := List.getElem_of_mem hm
    rw [List.length_take] at hj
    have hp := List.pairwise_iff_getElem.1 hs j k (by omega) hk (by omega)
    rw [List.getElem_take, ← (List.getElem?_eq_some_iff.1 hx).2]
    exact hp
theorem take_srt {xs : List Ent} (hs : Srt xs) (k : Nat) : Srt (xs.take k) := hs.sublist (List.take_sublist _ _)
set_option maxHeartbeats 400000 in
set_option maxRecDepth 100000 in
theorem implIds (a : Option Addr) (c n : Nat) (xs : List Nod) (w : World) (hm : n ≤ 2000000) (ha : AtN w a n xs) (hw : recs.wfN xs) :
    Calls Tryz.prog 62 #[.slice a n c] w fun e w' => ∃ b, e = .returned (.map (some b)) ∧ MapN w' b n xs ∧ w.heap.size ≤ b ∧ Below w.heap.size w w' := by
  have HA := Lib.hid ha
  have HW := Lib.hid hw
  have hmm := @run_makeMap Tryz.prog
  clear ha hw
  go_enter Tryz.func62, Tryz.ntmps62
  go_wp2
  go_loopw [9] (fun i wr => ∃ k : Nat, k ≤ n ∧ i = .int .i64 k ∧ MapN wr w.heap.size k (xs.take k) ∧ Below w.heap.size w wr) (fun i _ => n - (intOf i).toNat)
  case atStart => exact ⟨0, Nat.zero_le _, rfl, ⟨_, World.ownsMap_made _ _ _ _, RepN.empty⟩, (Below.refl _ _).alloc (Nat.le_refl _) _⟩
  case round =>
    obtain ⟨k, hk, rfl, hmap, hb⟩ := hrel
    by_cases hlt : k < n
    · obtain ⟨i, t, j, g, o, hx, rfl, hg, c1, c2, c3⟩ := (HA.out.below hb).get hlt
      have i0 : (0 : Int) ≤ (k : Int) := by omega
      have i1 : (k : Int) < (n : Int) := by omega
      have hwf := HW.out _ (List.mem_of_getElem? hx)
      have WF := Lib.hid (wf_lit hwf.1)
      have HT := Lib.hid (show xs.take k ++ [(i, t, j)] = xs.take (k + 1) by rw [List.take_add_one, hx]; rfl)
      have hr1 : Below wr.heap.size wr (wr.alloc (.cells #[.int .i64 i, .string t, .int .i64 j] 41)) := (Below.refl _ _).alloc (Nat.le_refl _) _
      obtain ⟨D, ho, hr⟩ := hmap.below hr1
      have HR := Lib.hid hr
      have HB := Lib.hid (hb.trans (hr1.mono hb.size))
      clear hx hwf hr hr1 hmap
      go_wp2_with (at_mapUpdate; refine wpList_mapUpdate_own _ rfl _ _ _ 84 rfl 3 4 lawI Tryz.underlying84 _ w.heap.size k D rfl ho (by unfold maxLen; omega) _ _ _ rfl rfl (keyOf_int_mk Tryz.underlying3 WF.out) _ [] (plainElem_bool Tryz.underlying4 true) ?_; intro w4 hown4 hgrow4; go_frame)
      go_roundw
      case rel => exact ⟨k + 1, by omega, by go_num, ⟨_, hown4, by rw [← HT.out]; exact HR.out.put (i, t, j)⟩, HB.out.grown hgrow4 HB.out.size (fun j hj => by cases hj; exact Nat.le_refl _)⟩
      case measure => simp [intOf]; omega
    · obtain rfl : k = n := by omega
      have hend : xs.take k = xs := List.take_of_length_le (by rw [HA.out.len]; exact Nat.le_refl _)
      rw [hend] at hmap
      clear hend
      go_wp2
      go_ret
      exact ⟨_, rfl, hmap, Nat.le_refl _, hb⟩

theorem str_key (key : Value) (kl : Lit) (h : keyOf Tryz.prog 9 key = some kl) : ∃ x : ByteArray, key = .string x := by
  obtain ⟨x, hx, _⟩ := Maps.keyOf_str Tryz.underlying9 h
  exact ⟨_, hx⟩
theorem int_val (v : Value) (y : DataW Unit × List MemPlace) (h : plainElem Tryz.prog 3 v = some y) : ∃ c : Int, v = .int .i64 c := by
  obtain ⟨c, hc, _⟩ := plainElem_int_inv Tryz.underlying3 h
  exact ⟨c, hc⟩
theorem key_is {x : ByteArray} {kl : Lit} (h : keyOf Tryz.prog 9 (.string x) = some kl) : kl = keyL x := by
  obtain ⟨z, hz, hk, _⟩ := Maps.keyOf_str Tryz.underlying9 h
  have : x.data.toList = z := by
    unfold Go.Proofs.encStr at hz
    simp only [Value.string.injEq] at hz
    rw [hz]
  rw [hk, ← this]
theorem val_is {c : Int} {y : DataW Unit × List MemPlace} (h : plainElem Tryz.prog 3 (.int .i64 c) = some y) : y.1 = .lit (.int .i64 c) ∧ (Lit.int .i64 c).wf = true := by
  obtain ⟨c', hc, hy, hw⟩ := plainElem_int_inv Tryz.underlying3 h
  cases hc
  exact ⟨by rw [hy], hw⟩

set_option maxHeartbeats 1000000 in
set_option maxRecDepth 100000 in
theorem implGood (b n bN m : Nat) (l : List Ent) (ns : List Nod) (w : World) (h : MapE w b n l) (hN : MapN w bN m ns) :
    Calls Tryz.prog 63 #[.map (some b), .map (some bN)] w fun e w' => e = .returned (.bool (decide (l.length ≤ 16) && l.all fun e => (nodeIx ns e.2).isSome)) ∧ Below w.heap.size w w' := by
  obtain ⟨D, ho, hr, hs⟩ := h
  have hsz := hr.size hs ho lawS Tryz.underlying9
  have HO := Lib.hid ho
  have HR := Lib.hid hr
  have HS := Lib.hid hs
  have HN := Lib.hid hN
  have hlN := hN.lt
  have hl := ho.lt
  clear hr hs hN
  by_cases h16 : 16 < l.length
  · have g1 : (16 : Int) < (Maps.size D : Int) := by omega
    have HF := Lib.hid (show (decide (l.length ≤ 16) && l.all fun e => (nodeIx ns e.2).isSome) = false by simp; omega)
    go_enter Tryz.func63, Tryz.ntmps63
    go_wp2_with (at_len; refine wpList_len_own _ rfl _ 69 rfl 9 3 Tryz.underlying69 _ b n D rfl ho ?_)
    go_ret
    exact ⟨by rw [HF.out]; rfl, Below.refl _ _⟩
  · have g1 : ¬ (16 : Int) < (Maps.size D : Int) := by omega
    have HL := Lib.hid (show decide (l.length ≤ 16) = true by simp; omega)
    clear h16 hsz
    go_enter Tryz.func63, Tryz.ntmps63
    go_wp2_with (first
      | (at_len; refine wpList_len_own _ rfl _ 69 rfl 9 3 Tryz.underlying69 _ b n D rfl ho ?_)
      | (at_range; refine wpList_range_own _ rfl _ 69 rfl 9 3 lawS Tryz.underlying69 _ b n D rfl ho ?_; intro w0 hrg0 hg0 hs0))
    try go_frame
    go_loopw [6] (fun _ wr => ∃ (left : Lit → Bool) (cnt : Nat), wr.ranges Tryz.prog 9 (plainElem Tryz.prog 3) b w.heap.size n D left cnt ∧ Come D left ns ∧ MapN wr bN m ns ∧ Below w.heap.size w wr) (fun _ wr => wr.rangeLeft b w.heap.size)
    case atStart => exact ⟨_, _, hrg0, Come.start D ns, HN.out.kept hg0 (by simp), (Below.refl _ _).grown hg0 (Nat.le_refl _) (fun j hj => by cases hj)⟩
    case round =>
      clear hrg0 hg0 hs0
      obtain ⟨left, cnt, hrg, hcome, hmn, hb⟩ := hrel
      go_wp2_with (at_next; refine wpList_next_ranges _ rfl _ rfl 9 lawS (plainElem Tryz.prog 3) Value.string (Value.int .i64) str_key int_val b w.heap.size n D left cnt rfl hrg ?_ ?_)
      · intro _ hl0
        have HE := Lib.hid (hcome.end_ HR.out HS.out hl0)
        go_wp2
        go_ret
        exact ⟨by rw [HL.out, HE.out]; rfl, hb⟩
      · intro x c kl y1 y2 w1 cnt1 hkey hlk hv hat hrg1 hlt1 hg1 hs1 hen
        obtain ⟨hy, hwf⟩ := val_is hv
        obtain rfl := key_is hkey
        have hat2 : ∀ z, D.atKey (keyL x) z = .lit (.int .i64 c) := fun z => (hat z).trans hy
        have hmn1 := hmn.kept hg1 (by simp; omega)
        have hlook := hmn1.look hwf
        have hb1 := hb.grown hg1 hb.size (fun j hj => by cases hj; exact Nat.le_refl _)
        cases hc : (nodeIx ns c).isSome with
        | false =>
          rw [hc] at hlook
          have HF := Lib.hid (bad_one HR.out hat2 hc)
          clear hc hat hat2 hv hkey
          go_wp2
          go_ret
          exact ⟨by rw [HF.out, HL.out]; rfl, hb1⟩
        | true =>
          rw [hc] at hlook
          have HC := Lib.hid (hcome.step hat2 hc)
          have HM := Lib.hid (show w1.rangeLeft b w.heap.size < wr.rangeLeft b w.heap.size by rw [hrg1.left_eq, hrg.left_eq]; exact hlt1)
          clear hc hat hat2 hv hkey
          go_wp2
          go_roundw
          case rel => exact ⟨_, cnt1, hrg1, HC.out, hmn1, hb1⟩
          case measure => exact HM.out

end Go.Proofs.YtkibddcjogfklaaGreatDoor.ik
