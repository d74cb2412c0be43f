/-
  The largest number of a list of nodes, as the program finds it.
-/
import Derived.Test.YtkibddcjogfklaaGreatDoorDuM
import Derived.Test.YtkibddcjogfklaaGreatDoorIkX
import Derived.Test.YtkibddcjogfklaaGreatDoorInts
import Derived.Test.YtkibddcjogfklaaGreatDoorDuZ
namespace Go.Proofs.YtkibddcjogfklaaGreatDoor.fall
open Go.RowKit
open kit strs recs disk deed kd

set_option maxHeartbeats 2000000 in
set_option maxRecDepth 100000 in
theorem implHighest (a : Option Addr) (n c : Nat) (ns : List Nod) (w : World) (hn : n ≤ 1048576) (hv : AtN w a n ns) :
    Calls Tryz.prog 20 #[.slice a n c] w fun e w' => e = .returned (.int .i64 (maxId ns : Nat)) ∧ Below w.heap.size w w' := by
  have HN := Lib.hid hv
  have hln := hv.len
  clear hv
  go_enter Tryz.func20, Tryz.ntmps20
  go_wp2
  go_loopw [3, 8] (fun x i wr => ∃ k m : Nat, k ≤ n ∧ i = .int .i64 k ∧ x = .int .i64 m ∧ Hid (m = maxId (ns.take k)) ∧ Below w.heap.size w wr) (fun _ i _ => n - (intOf i).toNat)
  case atStart => exact ⟨0, 0, Nat.zero_le _, rfl, rfl, Lib.hid rfl, Below.refl _ _⟩
  case round =>
    obtain ⟨k, m, hk, rfl, rfl, hf, hb⟩ := hrel
    by_cases hlt : k < n
    · obtain ⟨i, t, j, g, o, hx, rfl, hg, c1, c2, c3⟩ := (HN.out.below hb).get hlt
      have i0 : (0 : Int) ≤ (k : Int) := by omega
      have i1 : (k : Int) < (n : Int) := by omega
      have HS := Lib.hid (max_snoc hx)
      have hbl2 := hb.alloc hb.size (.cells #[.int .i64 i, .string t, .int .i64 j] 41)
      clear hx
      go_wp2
      go_roundw
      case rel => exact ⟨k + 1, max m i.toNat, by omega, by go_num, by rw [Value.int.injEq]; exact ⟨rfl, by omega⟩, Lib.hid (by rw [HS.out, ← hf.out]), hbl2⟩
      case measure => simp [intOf]; omega
    · obtain rfl : k = n := by omega
      have HE := Lib.hid (show maxId ns = m by rw [hf.out, List.take_of_length_le (by omega)])
      go_wp2
      go_ret
      exact ⟨by rw [HE.out]; rfl, hb⟩

end Go.Proofs.YtkibddcjogfklaaGreatDoor.fall

namespace Go.Proofs.YtkibddcjogfklaaGreatDoor.fall
open Go.RowKit
open kit strs recs disk deed kd

def row (M : Nat) (f : Int → Int) : List Int := (List.range M).map fun (i : Nat) => f (i : Int)
theorem row_len (M : Nat) (f : Int → Int) : (row M f).length = M := by simp [row]
theorem row_at {M k : Nat} (f : Int → Int) (h : k < M) : (row M f)[k]? = some (f (k : Int)) := by simp [row, h]
theorem row_zero (M : Nat) : row M (fun _ => 0) = List.replicate M (0 : Int) := by
  unfold row
  rw [List.map_const', List.length_range]
theorem row_set {M : Nat} {f g : Int → Int} {j : Nat} {v : Int} (h : ∀ i : Int, g i = if i = (j : Int) then v else f i) : (row M f).set j v = row M g := by
  refine List.ext_getElem? fun i => ?_
  rw [List.getElem?_set]
  by_cases hi : i < M
  · rw [row_at g hi, h]
    by_cases hj : j = i
    · subst hj
      rw [if_pos rfl, if_pos rfl, if_pos (by rw [row_len]; exact hi)]
    · rw [if_neg hj, if_neg (by omega), row_at f hi]
  · have e1 : (row M g)[i]? = none := List.getElem?_eq_none (by rw [row_len]; omega)
    have e2 : (row M f)[i]? = none := List.getElem?_eq_none (by rw [row_len]; omega)
    rw [e1, e2]
    by_cases hj : j = i
    · rw [if_pos hj, if_neg (by rw [row_len]; omega)]
    · rw [if_neg hj]
theorem row_same {M : Nat} {f g : Int → Int} (h : ∀ i : Nat, i < M → f (i : Int) = g (i : Int)) : row M f = row M g :=
  List.map_congr_left fun i hi => h i (List.mem_range.1 hi)
theorem size_next {ys : List Nod} {k : Nat} {n : Nod} (h : ys[k]? = some n) (i : Int) : sizeL (ys.take (k + 1)) i = if n.1 = i then (n.2.1.size : Int) else sizeL (ys.take k) i := by
  unfold sizeL
  rw [List.take_add_one, h, List.foldl_append]
  rfl
def keepF (xs ys : List Nod) (i : Int) : Int := xs.foldl (fun a n => if n.1 = i then a - n.2.2 else a) (sizeL ys i)
theorem keep_next {xs ys : List Nod} {k : Nat} {n : Nod} (h : xs[k]? = some n) (i : Int) : keepF (xs.take (k + 1)) ys i = if n.1 = i then keepF (xs.take k) ys i - n.2.2 else keepF (xs.take k) ys i := by
  unfold keepF
  rw [List.take_add_one, h, List.foldl_append]
  rfl
theorem keeps_row (d x : D) : keepsI d x = row (maxId d.nodes + 1) (keepF d.nodes x.nodes) := rfl
def fit (ns : List Nod) : Prop := ∀ nd ∈ ns, 0 ≤ nd.1 ∧ 0 ≤ nd.2.2 ∧ nd.2.2 ≤ (nd.2.1.size : Int) ∧ nd.2.1.size ≤ 1048576
theorem size_fold (i : Int) : ∀ (ns : List Nod) (a : Int), fit ns → 0 ≤ a → a ≤ 1048576 → 0 ≤ ns.foldl (fun a n => if n.1 = i then (n.2.1.size : Int) else a) a ∧ ns.foldl (fun a n => if n.1 = i then (n.2.1.size : Int) else a) a ≤ 1048576
  | [], a, _, h1, h2 => ⟨h1, h2⟩
  | n :: r, a, h, h1, h2 => by
    have hn := (h n List.mem_cons_self).2.2.2
    rw [List.foldl_cons]
    refine size_fold i r _ (fun x hx => h x (List.mem_cons_of_mem _ hx)) ?_ ?_
    · split <;> omega
    · split <;> omega
theorem size_in (ns : List Nod) (i : Int) (h : fit ns) : 0 ≤ sizeL ns i ∧ sizeL ns i ≤ 1048576 := size_fold i ns 0 h (by omega) (by omega)
theorem keep_fold (i : Int) : ∀ (ns : List Nod) (a : Int), fit ns → a - (ns.length : Int) * 1048576 ≤ ns.foldl (fun a n => if n.1 = i then a - n.2.2 else a) a ∧ ns.foldl (fun a n => if n.1 = i then a - n.2.2 else a) a ≤ a
  | [], a, _ => by simp
  | n :: r, a, h => by
    have hn := h n List.mem_cons_self
    rw [List.foldl_cons]
    have ih := keep_fold i r (if n.1 = i then a - n.2.2 else a) fun x hx => h x (List.mem_cons_of_mem _ hx)
    have e1 : (if n.1 = i then a - n.2.2 else a) ≤ a := by split <;> omega
    have e2 : a - 1048576 ≤ (if n.1 = i then a - n.2.2 else a) := by split <;> omega
    rw [List.length_cons]
    refine ⟨?_, by omega⟩
    have := ih.1
    push_cast
    omega
theorem keep_in (xs ys : List Nod) (i : Int) (h : fit xs) (h2 : fit ys) (hl : xs.length ≤ 1048576) : -1099511627776 ≤ keepF xs ys i ∧ keepF xs ys i ≤ 1048576 := by
  have h1 := keep_fold i xs (sizeL ys i) h
  have h3 := size_in ys i h2
  unfold keepF
  omega
theorem fit_take {ns : List Nod} (h : fit ns) (k : Nat) : fit (ns.take k) := fun n hn => h n (List.mem_of_mem_take hn)

set_option maxHeartbeats 4000000 in
set_option maxRecDepth 100000 in
theorem implKeeps (aN aX : Option Addr) (n cN m cX : Nat) (xs ys : List Nod) (w : World) (hn : n ≤ 1048576) (hm : m ≤ 1048576) (hmax : maxId xs ≤ 100000) (hx : fit xs) (hy : fit ys) (ha : AtN w aN n xs) (hb : AtN w aX m ys) :
    Calls Tryz.prog 24 #[.slice aN n cN, .slice aX m cX] w fun e w' => ∃ b, e = .returned (.slice (some ⟨b, 0, none⟩) (maxId xs + 1) (maxId xs + 1)) ∧ w'.ownsRow w.heap.size 3 1 (.slice (some ⟨b, 0, none⟩) (maxId xs + 1) (maxId xs + 1)) (maxId xs + 1) ((row (maxId xs + 1) (keepF xs ys)).map (Value.int .i64)) ∧ Below w.heap.size w w' := by
  obtain ⟨i0, hi, hz0, hz1, hz2⟩ := info_parts ints.Tryz.infoInt
  have HL := Lib.hid ha.len
  have HL2 := Lib.hid hb.len
  have HA := Lib.hid ha
  have HY := Lib.hid hb
  have FX := Lib.hid hx
  have FY := Lib.hid hy
  have CH := Lib.hid (implHighest aN n cN xs w hn ha)
  obtain ⟨M, hM⟩ : ∃ M, M = maxId xs := ⟨_, rfl⟩
  have HM := Lib.hid hM
  rw [← hM] at CH hmax ⊢
  have HOV := Lib.hid (fun (nd : Nod) (h : nd ∈ xs) => max_over h)
  rw [← hM] at HOV
  clear ha hb hx hy hM
  have e2 : (0 : Int) ≤ (M : Int) + 1 := by omega
  have e3 : (M : Int) + 1 ≤ 9223372036854775807 := by omega
  go_enter Tryz.func24, Tryz.ntmps24
  go_wp2_with (fail)
  refine CH.out.mono ?_
  rintro e w0 ⟨rfl, hb0⟩
  have HB0 := Lib.hid hb0
  clear CH
  go_wp2_with (refine wpList_make_full _ (by rfl) _ _ 39 (by rfl) w0.heap.size 3 i0 (.int .i64 0) 1 Tryz.underlying39 hi hz0 hz1 .i64 .i64 _ _ (M + 1) (by rfl) (by rfl) ?_ ?_ ?_ ?_ ?_ ?_; omega; omega; (rw [hz2]; omega); (unfold maxLen; omega); exact Nat.le_refl _; intro w1 hown1 hg1)
  have hb1 : Below w.heap.size w w1 := (HB0.out.trans (((Below.refl _ _).grown hg1 (Nat.le_refl _) (fun k hk => by cases hk)).mono HB0.out.size))
  have hown2 : w1.ownsRow w0.heap.size 3 1 (.slice (some ⟨w0.heap.size, 0, none⟩) (M + 1) (M + 1)) (M + 1) ((row (M + 1) (sizeL (ys.take 0))).map (Value.int .i64)) := by
    rw [show (Value.int IntKind.i64 0).cells = #[.int .i64 0] from rfl, toList_madeCells_one] at hown1
    rw [show sizeL (ys.take 0) = fun _ => 0 from rfl, row_zero]
    simpa using hown1
  obtain ⟨B, hB⟩ : ∃ B, B = w0.heap.size := ⟨_, rfl⟩
  rw [← hB] at hown2 ⊢
  have HBB := Lib.hid (show w.heap.size ≤ B by rw [hB]; exact HB0.out.size)
  clear hown1 hg1 HB0 hb0 hB e2 e3
  generalize hN : M + 1 = N at hown2 ⊢
  have hN1 : N ≤ 1048576 := by omega
  have HNM := Lib.hid hN
  clear hN
  go_loopw [16] (fun i wr => ∃ k : Nat, k ≤ m ∧ i = .int .i64 k ∧ wr.ownsRow B 3 1 (.slice (some ⟨B, 0, none⟩) N N) N ((row N (sizeL (ys.take k))).map (Value.int .i64)) ∧ Below w.heap.size w wr) (fun i _ => m - (intOf i).toNat)
  case atStart => exact ⟨0, Nat.zero_le _, rfl, hown2, hb1⟩
  case round =>
    obtain ⟨k, hk, rfl, hown, hb⟩ := hrel
    clear hown2 hb1
    by_cases hlt : k < m
    · obtain ⟨i, t, j, g, o, hx, rfl, hg, c1, c2, c3⟩ := (HY.out.below hb).get hlt
      obtain ⟨r1, r2, r3, r4⟩ := FY.out _ (List.mem_of_getElem? hx)
      obtain ⟨iN, hiN⟩ : ∃ iN : Nat, i = (iN : Int) := ⟨i.toNat, by have h : 0 ≤ i := r1; omega⟩
      subst hiN
      have i0 : (0 : Int) ≤ (k : Int) := by omega
      have i1 : (k : Int) < (m : Int) := by omega
      have j0 : (0 : Int) ≤ (iN : Int) := by omega
      have hr1 : Below wr.heap.size wr (wr.alloc (.cells #[.int .i64 (iN : Int), .string t, .int .i64 j] 41)) := (Below.refl _ _).alloc (Nat.le_refl _) _
      obtain ⟨W1, hW1⟩ : ∃ W1, W1 = wr.alloc (.cells #[.int .i64 (iN : Int), .string t, .int .i64 j] 41) := ⟨_, rfl⟩
      have nb := show disk.Box W1 wr.heap.size [.int .i64 (iN : Int), .string t, .int .i64 j] from by rw [hW1]; exact Box.new _ _ _
      have x0 := nb.at 0 _ rfl
      have x1 := nb.at 1 _ rfl
      have hownW := own_below hown (hW1 ▸ hr1)
      have hbW := hb.trans ((hW1 ▸ hr1 : Below wr.heap.size wr W1).mono hb.size)
      have HSN := Lib.hid (size_next hx)
      have HO := Lib.hid hownW
      have HB1 := Lib.hid hbW
      by_cases hin : iN < N
      · have g1 : (iN : Int) < (N : Int) := by omega
        obtain ⟨u, hcell⟩ : ∃ u, W1.cell? ⟨B, iN, none⟩ = some u := by
          rw [hownW.cellAt iN (by omega)]
          exact ⟨_, List.getElem?_eq_getElem (by rw [List.length_map, row_len]; omega)⟩
        have hfrz := hownW.frozenAt iN
        rw [hW1] at x0 x1 hcell hfrz
        have HW := Lib.hid hW1
        clear hx r1 r2 r3 r4 nb hr1 hown hownW hbW hW1
        go_wp2
        rw [← HW.out]
        go_roundw
        case rel =>
          refine ⟨k + 1, by omega, by go_num, ?_, HB1.out.setCell HBB.out _⟩
          rw [← row_set (f := sizeL (ys.take k)) (j := iN) (v := (t.size : Int)) (fun z => by rw [HSN.out]; by_cases h : (iN : Int) = z; (rw [if_pos h, if_pos h.symm]); (rw [if_neg h, if_neg (fun e => h e.symm)])), List.map_set]
          exact (HO.out.stored iN (.int .i64 (t.size : Int))).1
        case measure => simp [intOf]; omega
      · have g1 : ¬ (iN : Int) < (N : Int) := by omega
        rw [hW1] at x0 x1
        have HW := Lib.hid hW1
        clear hx r1 r2 r3 r4 nb hr1 hown hownW hbW hW1
        go_wp2
        rw [← HW.out]
        go_roundw
        case rel =>
          refine ⟨k + 1, by omega, by go_num, ?_, HB1.out⟩
          rw [← row_same (f := sizeL (ys.take k)) (fun z hz => by rw [HSN.out, if_neg (by show ¬ (iN : Int) = (z : Int); omega)])]
          exact HO.out
        case measure => simp [intOf]; omega
    · obtain rfl : k = m := by omega
      rw [List.take_of_length_le (by rw [HL2.out]; exact Nat.le_refl _)] at hown
      have hown3 : wr.ownsRow B 3 1 (.slice (some ⟨B, 0, none⟩) N N) N ((row N (keepF (xs.take 0) ys)).map (Value.int .i64)) := hown
      clear hown
      go_wp2
      go_loopw [35] (fun i wr => ∃ k : Nat, k ≤ n ∧ i = .int .i64 k ∧ wr.ownsRow B 3 1 (.slice (some ⟨B, 0, none⟩) N N) N ((row N (keepF (xs.take k) ys)).map (Value.int .i64)) ∧ Below w.heap.size w wr) (fun i _ => n - (intOf i).toNat)
      case atStart => exact ⟨0, Nat.zero_le _, rfl, hown3, hb⟩
      case round =>
        clear hown3 hb
        obtain ⟨k, hk, rfl, hown, hb⟩ := hrel
        by_cases hlt : k < n
        · obtain ⟨i, t, j, g, o, hx, rfl, hg, c1, c2, c3⟩ := (HA.out.below hb).get hlt
          have hxm := List.mem_of_getElem? hx
          obtain ⟨r1, r2, r3, r4⟩ := FX.out _ hxm
          have ho := HOV.out _ hxm
          obtain ⟨iN, hiN⟩ : ∃ iN : Nat, i = (iN : Int) := ⟨i.toNat, by have h : 0 ≤ i := r1; omega⟩
          subst hiN
          have hin : iN < N := by have h1 : (iN : Int).toNat ≤ M := ho; have h2 := HNM.out; omega
          have i0 : (0 : Int) ≤ (k : Int) := by omega
          have i1 : (k : Int) < (n : Int) := by omega
          have j0 : (0 : Int) ≤ (iN : Int) := by omega
          have g1 : (iN : Int) < (N : Int) := by omega
          have hr1 : Below wr.heap.size wr (wr.alloc (.cells #[.int .i64 (iN : Int), .string t, .int .i64 j] 41)) := (Below.refl _ _).alloc (Nat.le_refl _) _
          obtain ⟨W1, hW1⟩ : ∃ W1, W1 = wr.alloc (.cells #[.int .i64 (iN : Int), .string t, .int .i64 j] 41) := ⟨_, rfl⟩
          have nb := show disk.Box W1 wr.heap.size [.int .i64 (iN : Int), .string t, .int .i64 j] from by rw [hW1]; exact Box.new _ _ _
          have x0 := nb.at 0 _ rfl
          have x2 := nb.at 2 _ rfl
          have hownW := own_below hown (hW1 ▸ hr1)
          have hbW := hb.trans ((hW1 ▸ hr1 : Below wr.heap.size wr W1).mono hb.size)
          obtain ⟨a, ha⟩ : ∃ a, a = keepF (xs.take k) ys (iN : Int) := ⟨_, rfl⟩
          have hain := keep_in (xs.take k) ys (iN : Int) (fit_take FX.out k) FY.out (by rw [List.length_take]; omega)
          rw [← ha] at hain
          have q1 : -9223372036854775808 ≤ a - j := by have h1 : j ≤ (t.size : Int) := r3; have h2 : t.size ≤ 1048576 := r4; omega
          have q2 : a - j ≤ 9223372036854775807 := by have h1 : (0 : Int) ≤ j := r2; omega
          have hcell : W1.cell? ⟨B, iN, none⟩ = some (.int .i64 a) := by
            rw [hownW.cellAt iN (by omega), List.getElem?_map, row_at _ hin, ha]
            rfl
          have hfrz := hownW.frozenAt iN
          have HKN := Lib.hid (keep_next (ys := ys) hx)
          have HAK := Lib.hid ha
          have HO := Lib.hid hownW
          have HB1 := Lib.hid hbW
          have HW := Lib.hid hW1
          have hBl : B < W1.heap.size := (own_block_ge hownW _ rfl).2
          clear hx hxm r1 r2 r3 r4 nb hr1 hown hownW hbW ha ho hain
          have X := Lib.hid (And.intro x0 (And.intro x2 (And.intro hcell hfrz)))
          clear x0 x2 hcell hfrz hW1
          go_wp2
          rw [← HW.out]
          have x0 := X.out.1
          have x2 := X.out.2.1
          have hcell := X.out.2.2.1
          have hfrz := X.out.2.2.2
          clear HW
          go_region
          try go_wp2
          go_roundw
          case rel =>
            have hbs := HB1.out.setCell (p := ⟨B, iN, none⟩) HBB.out (.int .i64 (a - j))
            have hbd : Below (W1.setCell ⟨B, iN, none⟩ (.int .i64 (a - j))).heap.size (W1.setCell ⟨B, iN, none⟩ (.int .i64 (a - j))) (W1.setCell ⟨B, iN, none⟩ (.int .i64 (a - j))).drew := by first | exact below_drew (Below.refl _ _) | exact below_drewN (Below.refl _ _) 1 | exact (Below.refl _ _).drew
            refine ⟨k + 1, by omega, by go_num, own_below ?_ hbd, hbs.trans (hbd.mono hbs.size)⟩
            rw [← row_set (f := keepF (xs.take k) ys) (j := iN) (v := a - j) (fun z => by rw [HKN.out]; by_cases h : (iN : Int) = z; (rw [if_pos h, if_pos h.symm, HAK.out, h]); (rw [if_neg h, if_neg (fun e => h e.symm)])), List.map_set]
            exact (HO.out.stored iN (.int .i64 (a - j))).1
          case measure => simp [intOf]; omega
        · obtain rfl : k = n := by omega
          rw [List.take_of_length_le (by rw [HL.out]; exact Nat.le_refl _)] at hown
          go_wp2
          go_ret
          have hNM := HNM.out
          subst hNM
          exact ⟨B, rfl, own_base hown HBB.out, hb⟩

end Go.Proofs.YtkibddcjogfklaaGreatDoor.fall

namespace Go.Proofs.YtkibddcjogfklaaGreatDoor.ik
open Go.RowKit Go.Maps Go.WideMaps
open kit strs recs disk deed

theorem sub_len : ∀ {l2 l1 : List Ent}, Srt l1 → Srt l2 → (∀ e ∈ l1, e ∈ l2) → l1.length ≤ l2.length
  | l2, [], _, _, _ => Nat.zero_le _
  | [], a :: r, _, _, h => by cases h a List.mem_cons_self
  | b :: r2, a :: r1, h1, h2, h => by
    unfold Srt at h1 h2
    rw [List.pairwise_cons] at h1 h2
    have ih : r1.length ≤ r2.length := by
      refine sub_len h1.2 h2.2 fun e he => ?_
      rcases List.mem_cons.1 (h e (List.mem_cons_of_mem _ he)) with rfl | hm
      · have hl := h1.1 _ he
        rcases List.mem_cons.1 (h a List.mem_cons_self) with rfl | hm
        · exact absurd hl (less_irr _)
        · exact absurd hl (less_no (h2.1 _ hm))
      · exact hm
    simp only [List.length_cons]
    omega
theorem sub_eq : ∀ {l2 l1 : List Ent}, Srt l1 → Srt l2 → (∀ e ∈ l1, e ∈ l2) → l2.length ≤ l1.length → l1 = l2
  | [], [], _, _, _, _ => rfl
  | b :: r, [], _, _, _, h => by simp at h
  | [], a :: r, _, _, h, _ => by cases h a List.mem_cons_self
  | b :: r2, a :: r1, h1, h2, h, hl => by
    unfold Srt at h1 h2
    have p1 := h1
    rw [List.pairwise_cons] at h1 h2
    rcases List.mem_cons.1 (h a List.mem_cons_self) with e | hm
    · rw [e, sub_eq h1.2 h2.2 (fun x hx => by
        rcases List.mem_cons.1 (h x (List.mem_cons_of_mem _ hx)) with e2 | hm
        · have := h1.1 _ hx
          rw [e2, e] at this
          exact absurd this (less_irr _)
        · exact hm) (by simpa using hl)]
    · have : (a :: r1).length ≤ r2.length := sub_len p1 h2.2 fun x hx => by
        rcases List.mem_cons.1 (h x hx) with e2 | hm2
        · have h3 := h2.1 _ hm
          rcases List.mem_cons.1 hx with e3 | hx
          · rw [← e2, e3] at h3
            exact absurd h3 (less_irr _)
          · have h4 := h1.1 _ hx
            rw [e2] at h4
            exact absurd h3 (less_no h4)
        · exact hm2
      simp only [List.length_cons] at this hl
      omega

/-- is every name that has come one of the other map, with the same number? -/
def ComeE (D : DataW Unit) (left : Lit → Bool) (l : List Ent) : Prop := ∀ s i, left (keyL s) = false → (∀ z, D.atKey (keyL s) z = .lit (.int .i64 i)) → entAt l s = some i
theorem ComeE.start (D : DataW Unit) (l : List Ent) : ComeE D (Maps.has D) l := fun s i hl ha => by
  rw [has_true_of_atKey ha] at hl
  cases hl
theorem ComeE.step {D : DataW Unit} {left : Lit → Bool} {l : List Ent} {t : ByteArray} {j : Int} (h : ComeE D left l) (ha : ∀ z, D.atKey (keyL t) z = .lit (.int .i64 j)) (hn : entAt l t = some j) :
    ComeE D (fun z => left z && !z.sameKey (keyL t)) l := fun s i hl ha2 => by
  by_cases e : s = t
  · subst e
    have := (ha (.lit (.bool true))).symm.trans (ha2 _)
    simp only [DataW.lit.injEq, Lit.int.injEq, true_and] at this
    rw [← this]
    exact hn
  · refine h s i ?_ ha2
    have hk : (keyL s).sameKey (keyL t) = false := sameKey_ne (keyL_ne e)
    simpa [hk] using hl
theorem ComeE.end_ {D : DataW Unit} {left : Lit → Bool} {l l2 : List Ent} (h : ComeE D left l2) (hr : Rep D l) (hs : Srt l) (hs2 : Srt l2) (hl : ∀ kl, left kl = false) (hlen : l.length = l2.length) : decide (l = l2) = true := by
  rw [decide_eq_true_eq]
  refine sub_eq hs hs2 (fun e he => ?_) (by omega)
  exact at_mem (h e.1 e.2 (hl _) (hr.at (mem_at hs he)))
theorem bad_ent {D : DataW Unit} {l l2 : List Ent} (hr : Rep D l) {t : ByteArray} {j : Int} (ha : ∀ z, D.atKey (keyL t) z = .lit (.int .i64 j)) (hn : ¬ entAt l2 t = some j) : decide (l = l2) = false := by
  have h1 := ha (.lit (.bool true))
  rw [hr.2] at h1
  cases e : entAt l t with
  | none => rw [e] at h1; cases h1
  | some i =>
    rw [e] at h1
    simp only [DataW.lit.injEq, Lit.int.injEq, true_and] at h1
    subst h1
    rw [decide_eq_false_iff_not]
    rintro rfl
    exact hn e

set_option maxHeartbeats 1000000 in
set_option maxRecDepth 100000 in
theorem implEqualMaps (b n b2 n2 : Nat) (l l2 : List Ent) (w : World) (h : MapE w b n l) (h2 : MapE w b2 n2 l2) :
    Calls Tryz.prog 45 #[.map (some b), .map (some b2)] w fun e w' => e = .returned (.bool (decide (l = l2))) ∧ Below w.heap.size w w' := by
  have HM2 := Lib.hid h2
  obtain ⟨D, ho, hr, hs⟩ := h
  obtain ⟨D2, ho2, hr2, hs2⟩ := h2
  have hsz := hr.size hs ho lawS Tryz.underlying9
  have hsz2 := hr2.size hs2 ho2 lawS Tryz.underlying9
  have HO := Lib.hid ho
  have HR := Lib.hid hr
  have HS := Lib.hid hs
  have HS2 := Lib.hid hs2
  have hl2 := ho2.lt
  have hl := ho.lt
  clear hr hs hr2 hs2
  by_cases hne : l.length = l2.length
  · have g1 : ¬ ((Maps.size D : Int) ≠ (Maps.size D2 : Int)) := by omega
    have HL := Lib.hid hne
    clear hne hsz hsz2
    go_enter Tryz.func45, Tryz.ntmps45
    go_wp2_with (first
      | (at_len; refine wpList_len_own _ rfl _ 69 rfl 9 3 Tryz.underlying69 _ b n D rfl ho ?_)
      | (at_len; refine wpList_len_own _ rfl _ 69 rfl 9 3 Tryz.underlying69 _ b2 n2 D2 rfl ho2 ?_)
      | (at_range; refine wpList_range_own _ rfl _ 69 rfl 9 3 lawS Tryz.underlying69 _ b n D rfl ho ?_; intro w0 hrg0 hg0 hs0))
    try go_frame
    go_loopw [5] (fun _ wr => ∃ (left : Lit → Bool) (cnt : Nat), wr.ranges Tryz.prog 9 (plainElem Tryz.prog 3) b w.heap.size n D left cnt ∧ ComeE D left l2 ∧ MapE wr b2 n2 l2 ∧ Below w.heap.size w wr) (fun _ wr => wr.rangeLeft b w.heap.size)
    case atStart => exact ⟨_, _, hrg0, ComeE.start D l2, HM2.out.kept hg0 (by simp), (Below.refl _ _).grown hg0 (Nat.le_refl _) (fun j hj => by cases hj)⟩
    case round =>
      clear hrg0 hg0 hs0
      obtain ⟨left, cnt, hrg, hcome, hmn, hb⟩ := hrel
      go_wp2_with (at_next; refine wpList_next_ranges _ rfl _ rfl 9 lawS (plainElem Tryz.prog 3) Value.string (Value.int .i64) str_key int_val b w.heap.size n D left cnt rfl hrg ?_ ?_)
      · intro _ hl0
        have HE := Lib.hid (hcome.end_ HR.out HS.out HS2.out hl0 HL.out)
        go_wp2
        go_ret
        exact ⟨by rw [HE.out]; rfl, hb⟩
      · intro x c kl y1 y2 w1 cnt1 hkey hlk hv hat hrg1 hlt1 hg1 hs1 hen
        obtain ⟨hy, hwf⟩ := val_is hv
        have hxs : x.size ≤ maxLen := by
          rw [keyOf_string Tryz.underlying9] at hkey
          by_cases h : x.size ≤ maxLen
          · exact h
          · exfalso
            simp [mapKey, Tryz.underlying9, h] at hkey
        obtain rfl := key_is hkey
        have hat2 : ∀ z, D.atKey (keyL x) z = .lit (.int .i64 c) := fun z => (hat z).trans hy
        have hmn1 := hmn.kept hg1 (by simp; omega)
        have hlook := hmn1.look_ok hxs
        have hb1 := hb.grown hg1 hb.size (fun j hj => by cases hj; exact Nat.le_refl _)
        by_cases hc : entAt l2 x = some c
        · have e1 : hasE l2 x = true := by unfold hasE; rw [hc]; rfl
          have e2 : idE l2 x = c := by unfold idE; rw [hc]; rfl
          rw [e1, e2] at hlook
          have HC := Lib.hid (hcome.step hat2 hc)
          have HM := Lib.hid (show w1.rangeLeft b w.heap.size < wr.rangeLeft b w.heap.size by rw [hrg1.left_eq, hrg.left_eq]; exact hlt1)
          clear hc hat hat2 hv hkey e1 e2
          go_wp2
          go_roundw
          case rel => first | exact ⟨_, ⟨cnt1, hrg1⟩, HC.out⟩ | exact ⟨_, cnt1, hrg1, HC.out, hmn1, hb1⟩
          case measure => exact HM.out
        · have HF := Lib.hid (bad_ent HR.out hat2 hc)
          cases e1 : hasE l2 x with
          | false =>
            rw [e1] at hlook
            clear hc hat hat2 hv hkey
            go_wp2
            go_ret
            exact ⟨by rw [HF.out]; rfl, hb1⟩
          | true =>
            have e2 : ¬ c = idE l2 x := by
              intro e
              unfold hasE at e1
              unfold idE at e
              cases e3 : entAt l2 x with
              | none => rw [e3] at e1; cases e1
              | some i => rw [e3] at e; exact hc (by rw [e3, e]; rfl)
            rw [e1] at hlook
            clear hc hat hat2 hv hkey
            go_wp2
            go_ret
            exact ⟨by rw [HF.out]; rfl, hb1⟩
  · have g1 : (Maps.size D : Int) ≠ (Maps.size D2 : Int) := by omega
    have HF := Lib.hid (show decide (l = l2) = false by rw [decide_eq_false_iff_not]; rintro rfl; exact hne rfl)
    clear hne hsz hsz2
    go_enter Tryz.func45, Tryz.ntmps45
    go_wp2_with (first
      | (at_len; refine wpList_len_own _ rfl _ 69 rfl 9 3 Tryz.underlying69 _ b n D rfl ho ?_)
      | (at_len; refine wpList_len_own _ rfl _ 69 rfl 9 3 Tryz.underlying69 _ b2 n2 D2 rfl ho2 ?_))
    go_ret
    exact ⟨by rw [HF.out]; rfl, Below.refl _ _⟩

end Go.Proofs.YtkibddcjogfklaaGreatDoor.ik

namespace Go.Proofs.YtkibddcjogfklaaGreatDoor.ik
open Go.RowKit
open kit strs recs disk deed kd fall

def beB (d : D) (l : List Ent) : Bool := (List.range (d.steps.length + 1)).any fun k => decide (listAt d (k : Int) = l)
theorem any_next (f : Nat → Bool) (k : Nat) : (List.range (k + 1)).any f = ((List.range k).any f || f k) := by
  rw [List.range_succ, List.any_append]
  simp
theorem be_hit {d : D} {l : List Ent} {k : Nat} (hk : k ≤ d.steps.length) (h : decide (listAt d (k : Int) = l) = true) : beB d l = true := by
  unfold beB
  rw [List.any_eq_true]
  exact ⟨k, List.mem_range.2 (by omega), h⟩
theorem be_end {d : D} {l : List Ent} (h : (List.range d.steps.length).any (fun k => decide (listAt d (k : Int) = l)) = false) : beB d l = decide (listAt d (d.steps.length : Int) = l) := by
  unfold beB
  rw [any_next, h, Bool.false_or]
theorem list_right {d : D} (h : diskOk d = true) {k : Nat} (hk : k ≤ d.steps.length) : histAt d k = some (listAt d (k : Int)) ∧ Srt (listAt d (k : Int)) ∧ Nok (listAt d (k : Int)) := by
  obtain ⟨l, h1, h2⟩ := right_hist h hk
  rw [list_at hk h1]
  exact ⟨h1, ents_srt h2⟩
theorem list_zero {d : D} (h : diskOk d = true) : listAt d ((0 : Nat) : Int) = d.old := by
  have := (list_right h (Nat.zero_le _)).1
  unfold histAt at this
  simp only [List.take_zero, stepsTo, Option.some.injEq] at this
  exact this.symm
theorem list_next {d : D} (h : diskOk d = true) {k : Nat} {s : ByteArray} (hx : d.steps[k]? = some s) : doStep (listAt d (k : Int)) s = some (listAt d ((k + 1 : Nat) : Int)) := by
  have hk : k < d.steps.length := (List.getElem?_eq_some_iff.1 hx).1
  have h1 := (list_right h (show k ≤ d.steps.length by omega)).1
  have h2 := (list_right h (show k + 1 ≤ d.steps.length by omega)).1
  unfold histAt at h1 h2
  rw [stepsTo_snoc hx, h1] at h2
  exact h2

set_option maxHeartbeats 8000000 in
set_option maxRecDepth 100000 in
theorem implBeNames (v : Value) (d : D) (aL : Option Addr) (q cL : Nat) (l2 : List Ent) (w : World) (hk : okD d) (hd : diskOk d = true) (hv : IsDisk w v d) (hq : q ≤ 1048576) (hl : AtE w aL q l2) (hw2 : recs.wfE l2) (hs2 : Srt l2) (hg : GD w) :
    Calls Tryz.prog 21 #[v, .slice aL q cL] w fun e w' => e = .returned (.bool (beB d l2)) ∧ Below w.heap.size w w' := by
  obtain ⟨l1, l3', l3, l4⟩ := okL_lens (okD.loose hk)
  obtain ⟨aN, aE, aO, aS, nN, cN, nE, cE, nO, cO, nS, cS, rfl, hN, hE, hO, hS⟩ := hv
  obtain ⟨wN, wE, wO, _, _, _, _, m2, _, _⟩ := hk.1
  have h0 := list_zero hd
  have hs := (list_right hd (Nat.zero_le _)).2.1
  rw [h0] at hs
  rw [hO.len] at l3
  rw [hS.1] at l4
  obtain ⟨W, hW⟩ : ∃ W, W = w.alloc (.cells #[.slice aN nN cN, .slice aE nE cE, .slice aO nO cO, .slice aS nS cS, .int .i64 d.room, .int .i64 d.next] 32) := ⟨_, rfl⟩
  have hWB : Below w.heap.size w W := by rw [hW]; exact (Below.refl _ _).alloc (Nat.le_refl _) _
  have bx := show disk.Box W w.heap.size [.slice aN nN cN, .slice aE nE cE, .slice aO nO cO, .slice aS nS cS, .int .i64 d.room, .int .i64 d.next] from by rw [hW]; exact Box.new _ _ _
  have x2 := bx.at 2 _ rfl
  have x3 := bx.at 3 _ rfl
  have BX := Lib.hid bx
  have HSt := Lib.hid (hS.below hWB)
  have HB := Lib.hid hWB
  have HLS := Lib.hid hS.1
  have HGW := Lib.hid (hg.below hWB)
  have HSS := Lib.hid (step_size hk)
  have C1 := Lib.hid (implNames aO cO nO d.old W (by omega) (hO.below hWB) wO hs)
  have C2 := Lib.hid (fun (w1 : World) (hb : Below W.heap.size W w1) => implNames aL cL q l2 w1 (by omega) ((hl.below hWB).below hb) hw2 hs2)
  obtain ⟨R, hR⟩ : ∃ R, beB d l2 = R := ⟨_, rfl⟩
  rw [hR]
  have HR := Lib.hid hR
  have L3 := Lib.hid l3
  have L4 := Lib.hid l4
  have LQ := Lib.hid hq
  have HD := Lib.hid hd
  have H0 := Lib.hid h0
  clear hR hN hE hO hS hWB bx hk hs hd hg wN wE wO l1 l3 l3' l4 m2 hl hw2 hs2 h0 hq
  go_enter Tryz.func21, Tryz.ntmps21
  go_wp2_with (fail)
  rw [← hW]
  clear hW
  refine C1.out.mono ?_
  rintro e w1 ⟨b1, rfl, hm1, hge1, hb1⟩
  have y3 := (BX.out.below hb1).at 3 _ rfl
  have HB1 := Lib.hid hb1
  have HM1 := Lib.hid hm1
  have HG1 := Lib.hid hge1
  clear x2 x3 hb1 hm1 hge1
  go_wp2_with (fail)
  refine (C2.out w1 HB1.out).mono ?_
  rintro e w2 ⟨b2, rfl, hm2, hge2, hb2⟩
  have z3 := (BX.out.below (HB1.out.trans (hb2.mono HB1.out.size))).at 3 _ rfl
  have Hne := Lib.hid (show b2 ≠ b1 by have := HM1.out.lt; omega)
  have HM1' := Lib.hid (HM1.out.below hb2)
  have HM2 := Lib.hid hm2
  have HB2 := Lib.hid (HB1.out.trans (hb2.mono HB1.out.size))
  clear y3 hm2 hge2 hb2 C1 C2
  go_wp2
  go_loopw [8, 17] (fun _ i wr => ∃ k : Nat, k ≤ nS ∧ i = .int .i64 k ∧ Hid (MapE wr b1 (nO + k) (listAt d (k : Int))) ∧ Hid (MapE wr b2 q l2) ∧ Hid ((List.range k).any (fun j => decide (listAt d (j : Int) = l2)) = false) ∧ Hid (Below W.heap.size W wr)) (fun _ i _ => nS - (intOf i).toNat)
  case atStart => exact ⟨0, Nat.zero_le _, rfl, Lib.hid (by rw [H0.out]; exact HM1'.out), HM2, Lib.hid rfl, HB2⟩
  case round =>
    obtain ⟨k, hk, rfl, hm1, hm2, hf, hbl⟩ := hrel
    have l3 := L3.out
    have l4 := L4.out
    have lq := LQ.out
    by_cases hlt : k < nS
    · obtain ⟨s, g, o, hx, rfl, hgl, c1⟩ := deed.strAt (HSt.out.below hbl.out) hlt
      have hss := HSS.out s (List.mem_of_getElem? hx)
      have HN := Lib.hid (list_next HD.out hx)
      have hrt := list_right HD.out (show k ≤ d.steps.length by rw [HLS.out]; omega)
      have HNK := Lib.hid hrt.2.2
      have i0 : (0 : Int) ≤ (k : Int) := by omega
      have i1 : (k : Int) < (nS : Int) := by omega
      have HK1 := Lib.hid (show k + 1 ≤ nS by omega)
      have HSS2 := Lib.hid hss
      have i4 : (k : Int) ≤ 1500000 := by omega
      clear hx hrt hss l3 l4 lq
      go_wp2_with (fail)
      refine (implEqualMaps b1 (nO + k) b2 q (listAt d (k : Int)) l2 wr hm1.out hm2.out).mono ?_
      rintro e w3 ⟨rfl, hb3⟩
      have HB3 := Lib.hid (hbl.out.trans (hb3.mono hbl.out.size))
      have HM1 := Lib.hid (hm1.out.below hb3)
      have HM2 := Lib.hid (hm2.out.below hb3)
      clear hb3 hm1 hm2 hbl
      cases he : decide (listAt d (k : Int) = l2) with
      | true =>
        have HF := Lib.hid (show R = true by rw [← HR.out]; exact be_hit (by rw [HLS.out]; omega) he)
        clear he
        go_wp2
        go_ret
        exact ⟨by rw [HF.out]; rfl, HB.out.trans (HB3.out.mono HB.out.size)⟩
      | false =>
        have HF := Lib.hid (show (List.range (k + 1)).any (fun j => decide (listAt d (j : Int) = l2)) = false by rw [any_next, hf.out, he]; rfl)
        clear he hf
        go_wp2_with (fail)
        refine (implStep b1 (nO + k) (listAt d (k : Int)) s w3 HSS2.out (by have := L3.out; have := L4.out; omega) HM1.out HNK.out (HGW.out.below HB3.out)).mono ?_
        rw [HN.out]
        rintro e w4 ⟨he, hm4, hgr4⟩
        have he : e = .returned (.bool true) := he
        subst he
        have HM4 := Lib.hid (show MapE w4 b1 (nO + (k + 1)) (listAt d ((k + 1 : Nat) : Int)) from hm4)
        have HM24 := Lib.hid (HM2.out.kept hgr4 (fun e => Hne.out (Option.some.inj e)))
        have HB4 := Lib.hid (HB3.out.grown hgr4 HB3.out.size (fun j hj => by cases hj; exact HG1.out))
        clear hm4 hgr4
        go_wp2
        refine ⟨?rel, ?measure⟩
        case rel =>
          first
            | exact ⟨k + 1, HK1.out, by go_num, HM4, HM24, HF, HB4⟩
            | (iterate 100 (try apply Exists.intro)
               refine ⟨?r2, rfl⟩
               exact ⟨k + 1, HK1.out, by go_num, HM4, HM24, HF, HB4⟩)
        case measure => have := HK1.out; simp [intOf]; omega
    · obtain rfl : k = nS := by omega
      have HE := Lib.hid (show R = decide (listAt d (k : Int) = l2) by rw [← HR.out]; have h := be_end (d := d) (l := l2) (by rw [HLS.out]; exact hf.out); rw [HLS.out] at h; exact h)
      clear hlt hf
      go_wp2_with (fail)
      refine (implEqualMaps b1 (nO + k) b2 q (listAt d (k : Int)) l2 wr hm1.out hm2.out).mono ?_
      rintro e w3 ⟨rfl, hb3⟩
      have HB3 := Lib.hid (hbl.out.trans (hb3.mono hbl.out.size))
      clear hb3 hm1 hm2 hbl
      go_wp2
      go_ret
      exact ⟨by rw [HE.out]; rfl, HB.out.trans (HB3.out.mono HB.out.size)⟩

end Go.Proofs.YtkibddcjogfklaaGreatDoor.ik

namespace Go.Proofs.YtkibddcjogfklaaGreatDoor.fall
open Go.RowKit
open kit strs recs disk deed kd

theorem lens_six {d : D} (h : okD d) : d.nodes.length ≤ 1048576 ∧ d.ents.length ≤ 1048576 ∧ d.old.length ≤ 1048576 ∧ d.steps.length ≤ 1048576 := by
  have h := h.2
  unfold bulk bulkN bulkE at h
  simp only [List.length_map] at h
  omega
theorem fit_right {d : D} (hk : okD d) (hd : diskOk d = true) : fit d.nodes := fun n hn => by
  have h1 := ids_pos hd n hn
  have h2 := right_nod hd n hn
  have h3 := tot_each (d.nodes.map (·.2.1)) n.2.1 (List.mem_map.2 ⟨n, hn, rfl⟩)
  have h4 := hk.2
  unfold bulk bulkN at h4
  exact ⟨by omega, h2.2.1, h2.2.2, by omega⟩
theorem could_no1 {d x : D} (h : diskOk d = false) : couldB d x = false := by unfold couldB; rw [h]; rfl
theorem could_no2 {d x : D} (h : diskOk x = false) : couldB d x = false := by unfold couldB; rw [h]; simp
theorem could_no3 {d x : D} (h : 100000 < maxId d.nodes) : couldB d x = false := by unfold couldB; rw [decide_eq_false (show ¬ maxId d.nodes ≤ 100000 by omega)]; simp
theorem could_yes {d x : D} (hd : diskOk d = true) (hx : diskOk x = true) (h : maxId d.nodes ≤ 100000) : couldB d x = (ik.beB d x.old && sameB (under d x.old (keepsI d x)) x) := by
  unfold couldB
  rw [could_is hd hx, hd, hx, decide_eq_true h]
  rfl
theorem lens_under {d x : D} (hk : okD d) (hx : okD x) (ks : List Int) : Lens (under d x.old ks) := by
  have h1 := lens_six hk
  have h2 := lens_six hx
  refine ⟨?_, ?_, ?_, Nat.zero_le _⟩
  · show ((d.nodes.filter (stands _)).map (leftN ks)).length ≤ _
    rw [List.length_map]
    have := List.length_filter_le (stands x.old) d.nodes
    omega
  · show x.old.length ≤ _; omega
  · show x.old.length ≤ _; omega

set_option maxHeartbeats 8000000 in
set_option maxRecDepth 100000 in
theorem implCould (v u : Value) (d x : D) (w : World) (hk : okD d) (hkx : okD x) (hv : IsDisk w v d) (hu : IsDisk w u x) (hg : ik.GD w) :
    Calls Tryz.prog 7 #[v, u] w fun e w' => e = .returned (.bool (couldB d x)) ∧ Below w.heap.size w w' := by
  have hv0 := hv
  have hu0 := hu
  obtain ⟨aN, aE, aO, aS, nN, cN, nE, cE, nO, cO, nS, cS, rfl, hN, _, _, _⟩ := hv
  obtain ⟨xN, xE, xO, xS, mN, eN, mE, eE, mO, eO, mS, eS, rfl, kN, _, kO, _⟩ := hu
  have l1 := lens_six hk
  have l2 := lens_six hkx
  obtain ⟨W, hW⟩ : ∃ W, W = (w.alloc (.cells #[.slice aN nN cN, .slice aE nE cE, .slice aO nO cO, .slice aS nS cS, .int .i64 d.room, .int .i64 d.next] 32)).alloc (.cells #[.slice xN mN eN, .slice xE mE eE, .slice xO mO eO, .slice xS mS eS, .int .i64 x.room, .int .i64 x.next] 32) := ⟨_, rfl⟩
  have hWB : Below w.heap.size w W := by rw [hW]; exact ((Below.refl _ _).alloc (Nat.le_refl _) _).alloc (by simp) _
  have hWs : W.heap.size = w.heap.size + 2 := by rw [hW]; simp
  have bx := show disk.Box W w.heap.size [.slice aN nN cN, .slice aE nE cE, .slice aO nO cO, .slice aS nS cS, .int .i64 d.room, .int .i64 d.next] from by rw [hW]; exact (Box.new _ #[.slice aN nN cN, .slice aE nE cE, .slice aO nO cO, .slice aS nS cS, .int .i64 d.room, .int .i64 d.next] _).below ((Below.refl _ _).alloc (Nat.le_refl _) _)
  have by' := show disk.Box W (w.heap.size + 1) [.slice xN mN eN, .slice xE mE eE, .slice xO mO eO, .slice xS mS eS, .int .i64 x.room, .int .i64 x.next] from by
    have h := Box.new (w.alloc (.cells #[.slice aN nN cN, .slice aE nE cE, .slice aO nO cO, .slice aS nS cS, .int .i64 d.room, .int .i64 d.next] 32)) #[.slice xN mN eN, .slice xE mE eE, .slice xO mO eO, .slice xS mS eS, .int .i64 x.room, .int .i64 x.next] 32
    rw [hW]
    simpa using h
  have x0 := bx.at 0 _ rfl
  have x1 := bx.at 1 _ rfl
  have x2 := bx.at 2 _ rfl
  have x3 := bx.at 3 _ rfl
  have x4 := bx.at 4 _ rfl
  have x5 := bx.at 5 _ rfl
  rw [hW] at x0 x1 x2 x3 x4 x5
  have BX := Lib.hid bx
  have BY := Lib.hid by'
  have HB := Lib.hid hWB
  have HWs := Lib.hid hWs
  have HW := Lib.hid hW
  have HV := Lib.hid (hv0.below hWB)
  have HU := Lib.hid (hu0.below hWB)
  have HG := Lib.hid (hg.below hWB)
  have HN := Lib.hid (hN.below hWB)
  have KN := Lib.hid (kN.below hWB)
  have KO := Lib.hid (kO.below hWB)
  have LN := Lib.hid hN.len
  have LK := Lib.hid kN.len
  have LO := Lib.hid kO.len
  have L1 := Lib.hid l1
  have L2 := Lib.hid l2
  have HK := Lib.hid hk
  have HKX := Lib.hid hkx
  have CK := Lib.hid (ik.implDiskOk _ d W hk (hv0.below hWB) (hg.below hWB))
  obtain ⟨R, hR⟩ : ∃ R, couldB d x = R := ⟨_, rfl⟩
  rw [hR]
  have HR := Lib.hid hR
  clear hR hv0 hu0 hN kN kO l1 l2 hk hkx hg hWB hWs bx by' hW
  go_enter Tryz.func7, Tryz.ntmps7
  go_wp2_with (fail)
  rw [← HW.out]
  clear x0 x1 x2 x3 x4 x5
  refine CK.out.mono ?_
  rintro e w1 ⟨rfl, hb1⟩
  have B1 := Lib.hid hb1
  clear hb1 CK
  cases hdk : diskOk d with
  | false =>
    have HF := Lib.hid (show R = false by rw [← HR.out]; exact could_no1 hdk)
    clear hdk
    go_wp2
    go_ret
    exact ⟨by rw [HF.out]; rfl, HB.out.trans (B1.out.mono HB.out.size)⟩
  | true =>
    have HD := Lib.hid hdk
    clear hdk
    have y0 := (BY.out.below B1.out).at 0 _ rfl
    have y1 := (BY.out.below B1.out).at 1 _ rfl
    have y2 := (BY.out.below B1.out).at 2 _ rfl
    have y3 := (BY.out.below B1.out).at 3 _ rfl
    have y4 := (BY.out.below B1.out).at 4 _ rfl
    have y5 := (BY.out.below B1.out).at 5 _ rfl
    go_wp2_with (fail)
    clear y0 y1 y2 y3 y4 y5
    refine (ik.implDiskOk _ x w1 HKX.out (HU.out.below B1.out) (HG.out.below B1.out)).mono ?_
    rintro e w2 ⟨rfl, hb2⟩
    have B2 := Lib.hid (B1.out.trans (hb2.mono B1.out.size))
    clear hb2 B1
    cases hxk : diskOk x with
    | false =>
      have HF := Lib.hid (show R = false by rw [← HR.out]; exact could_no2 hxk)
      clear hxk
      go_wp2
      go_ret
      exact ⟨by rw [HF.out]; rfl, HB.out.trans (B2.out.mono HB.out.size)⟩
    | true =>
      have HX := Lib.hid hxk
      clear hxk
      have x0 := (BX.out.below B2.out).at 0 _ rfl
      have LNN := Lib.hid (show nN ≤ 1048576 by have := L1.out; have := LN.out; omega)
      go_wp2_with (fail)
      clear x0
      refine (implHighest aN nN cN d.nodes w2 LNN.out (HN.out.below B2.out)).mono ?_
      rintro e w3 ⟨rfl, hb3⟩
      have B3 := Lib.hid (B2.out.trans (hb3.mono B2.out.size))
      clear hb3 B2
      obtain ⟨M, hM⟩ : ∃ M, maxId d.nodes = M := ⟨_, rfl⟩
      have HM := Lib.hid hM
      rw [hM]
      clear hM
      by_cases hbig : 100000 < M
      · have HF := Lib.hid (show R = false by rw [← HR.out]; exact could_no3 (by rw [HM.out]; exact hbig))
        go_wp2
        go_ret
        exact ⟨by rw [HF.out]; rfl, HB.out.trans (B3.out.mono HB.out.size)⟩
      · have HF := Lib.hid (show R = (ik.beB d x.old && sameB (under d x.old (keepsI d x)) x) by rw [← HR.out]; exact could_yes HD.out HX.out (by rw [HM.out]; omega))
        have x0 := (BX.out.below B3.out).at 0 _ rfl
        have x1 := (BX.out.below B3.out).at 1 _ rfl
        have x2 := (BX.out.below B3.out).at 2 _ rfl
        have x3 := (BX.out.below B3.out).at 3 _ rfl
        have x4 := (BX.out.below B3.out).at 4 _ rfl
        have x5 := (BX.out.below B3.out).at 5 _ rfl
        have y2 := (BY.out.below B3.out).at 2 _ rfl
        have HBG := Lib.hid (show M ≤ 100000 by omega)
        have LMO := Lib.hid (show mO ≤ 1048576 by have := L2.out; have := LO.out; omega)
        have LMN := Lib.hid (show mN ≤ 1048576 by have := L2.out; have := LK.out; omega)
        go_wp2_with (fail)
        clear x0 x1 x2 x3 x4 x5 y2 hbig
        refine (ik.implBeNames _ d xO mO eO x.old w3 HK.out HD.out (HV.out.below B3.out) LMO.out (KO.out.below B3.out) HKX.out.1.2.2.1 (ik.ents_srt (right_old HX.out)).1 (HG.out.below B3.out)).mono ?_
        rintro e w4 ⟨rfl, hb4⟩
        have B4 := Lib.hid (B3.out.trans (hb4.mono B3.out.size))
        clear hb4 B3
        cases hbe : ik.beB d x.old with
        | false =>
          have HF2 := Lib.hid (show R = false by rw [HF.out, hbe]; rfl)
          clear hbe
          go_wp2
          go_ret
          exact ⟨by rw [HF2.out]; rfl, HB.out.trans (B4.out.mono HB.out.size)⟩
        | true =>
          have HF2 := Lib.hid (show R = sameB (under d x.old (keepsI d x)) x by rw [HF.out, hbe]; rfl)
          clear hbe
          have x0 := (BX.out.below B4.out).at 0 _ rfl
          have x1 := (BX.out.below B4.out).at 1 _ rfl
          have x2 := (BX.out.below B4.out).at 2 _ rfl
          have x3 := (BX.out.below B4.out).at 3 _ rfl
          have x4 := (BX.out.below B4.out).at 4 _ rfl
          have x5 := (BX.out.below B4.out).at 5 _ rfl
          have y0 := (BY.out.below B4.out).at 0 _ rfl
          have y1 := (BY.out.below B4.out).at 1 _ rfl
          have y2 := (BY.out.below B4.out).at 2 _ rfl
          have y3 := (BY.out.below B4.out).at 3 _ rfl
          have y4 := (BY.out.below B4.out).at 4 _ rfl
          have y5 := (BY.out.below B4.out).at 5 _ rfl
          have MX := Lib.hid (show maxId d.nodes ≤ 100000 by rw [HM.out]; exact HBG.out)
          have LMK := Lib.hid (show maxId d.nodes + 1 ≤ 1048576 by have := MX.out; omega)
          have NN := Lib.hid (show AtN w4.drew aN nN d.nodes from (HN.out.below B4.out).below (Below.refl w4.heap.size w4).drew)
          have NX := Lib.hid (show AtN w4.drew xN mN x.nodes from (KN.out.below B4.out).below (Below.refl w4.heap.size w4).drew)
          have LU := Lib.hid (lens_under HK.out HKX.out (keepsI d x))
          go_wp2
          go_region_held3 (fun w' => w'.cell? ⟨w.heap.size, 0, none⟩ = some (.slice aN nN cN) ∧ w'.cell? ⟨w.heap.size, 1, none⟩ = some (.slice aE nE cE) ∧ w'.cell? ⟨w.heap.size, 2, none⟩ = some (.slice aO nO cO) ∧ w'.cell? ⟨w.heap.size, 3, none⟩ = some (.slice aS nS cS) ∧ w'.cell? ⟨w.heap.size, 4, none⟩ = some (.int .i64 d.room) ∧ w'.cell? ⟨w.heap.size, 5, none⟩ = some (.int .i64 d.next) ∧ w'.cell? ⟨w.heap.size + 1, 0, none⟩ = some (.slice xN mN eN) ∧ w'.cell? ⟨w.heap.size + 1, 1, none⟩ = some (.slice xE mE eE) ∧ w'.cell? ⟨w.heap.size + 1, 2, none⟩ = some (.slice xO mO eO) ∧ w'.cell? ⟨w.heap.size + 1, 3, none⟩ = some (.slice xS mS eS) ∧ w'.cell? ⟨w.heap.size + 1, 4, none⟩ = some (.int .i64 x.room) ∧ w'.cell? ⟨w.heap.size + 1, 5, none⟩ = some (.int .i64 x.next)) (first | exact ⟨x0, x1, x2, x3, x4, x5, y0, y1, y2, y3, y4, y5⟩ | exact ⟨(BX.out.below B5.out).at 0 _ rfl, (BX.out.below B5.out).at 1 _ rfl, (BX.out.below B5.out).at 2 _ rfl, (BX.out.below B5.out).at 3 _ rfl, (BX.out.below B5.out).at 4 _ rfl, (BX.out.below B5.out).at 5 _ rfl, (BY.out.below B5.out).at 0 _ rfl, (BY.out.below B5.out).at 1 _ rfl, (BY.out.below B5.out).at 2 _ rfl, (BY.out.below B5.out).at 3 _ rfl, (BY.out.below B5.out).at 4 _ rfl, (BY.out.below B5.out).at 5 _ rfl⟩ | exact ⟨(BX.out.below B6.out).at 0 _ rfl, (BX.out.below B6.out).at 1 _ rfl, (BX.out.below B6.out).at 2 _ rfl, (BX.out.below B6.out).at 3 _ rfl, (BX.out.below B6.out).at 4 _ rfl, (BX.out.below B6.out).at 5 _ rfl, (BY.out.below B6.out).at 0 _ rfl, (BY.out.below B6.out).at 1 _ rfl, (BY.out.below B6.out).at 2 _ rfl, (BY.out.below B6.out).at 3 _ rfl, (BY.out.below B6.out).at 4 _ rfl, (BY.out.below B6.out).at 5 _ rfl⟩ | exact ⟨(BX.out.below B7.out).at 0 _ rfl, (BX.out.below B7.out).at 1 _ rfl, (BX.out.below B7.out).at 2 _ rfl, (BX.out.below B7.out).at 3 _ rfl, (BX.out.below B7.out).at 4 _ rfl, (BX.out.below B7.out).at 5 _ rfl, (BY.out.below B7.out).at 0 _ rfl, (BY.out.below B7.out).at 1 _ rfl, (BY.out.below B7.out).at 2 _ rfl, (BY.out.below B7.out).at 3 _ rfl, (BY.out.below B7.out).at 4 _ rfl, (BY.out.below B7.out).at 5 _ rfl⟩) (first | (go_at_call 24; refine (implKeeps aN xN nN cN mN eN d.nodes x.nodes _ LNN.out LMN.out MX.out (fit_right HK.out HD.out) (fit_right HKX.out HX.out) NN.out NX.out).mono ?_; rintro e w5 ⟨b5, rfl, ho5, hb5⟩; have B5 := Lib.hid (show Below W.heap.size W w5 from B4.out.trans (((Below.refl w4.heap.size w4).drew.trans hb5).mono B4.out.size)); have K5 := Lib.hid (show AtI w5 (some ⟨b5, 0, none⟩) (maxId d.nodes + 1) (keepsI d x) from own_cells ho5); clear ho5 hb5) | (go_at_call 23; refine (implLeft _ d xO _ mO eO (maxId d.nodes + 1) (maxId d.nodes + 1) x.old (keepsI d x) w5 HK.out HD.out LMO.out LMK.out (HV.out.below B5.out) (KO.out.below B5.out) K5.out).mono ?_; rintro e w6 ⟨u6, rfl, ho6, hb6⟩; have B6 := Lib.hid (B5.out.trans (hb6.mono B5.out.size)); have I6 := Lib.hid ho6.is; clear ho6 hb6) | (go_at_call 22; refine (implSameDisk u6 _ (under d x.old (keepsI d x)) x w6 LU.out (lens HKX.out) I6.out (HU.out.below B6.out)).mono ?_; rintro e w7 ⟨rfl, hb7⟩; have B7 := Lib.hid (B6.out.trans (hb7.mono B6.out.size))))
          go_wp2
          go_ret
          exact ⟨by rw [HF2.out]; rfl, HB.out.trans (B7.out.mono HB.out.size)⟩

end Go.Proofs.YtkibddcjogfklaaGreatDoor.fall

namespace Go.Proofs.YtkibddcjogfklaaGreatDoor.fall
open Go.RowKit
open kit strs recs disk deed kd

theorem could_all {d x : D} (hd : diskOk d = true) (hx : diskOk x = true) (h : maxId d.nodes ≤ 100000) : couldB d x = (List.range (d.steps.length + 1)).any fun k => sameB (fallen d (k : Int) (keepsS d x)) x := by
  unfold couldB
  rw [hd, hx, decide_eq_true h]
  rfl
theorem keeps_row_s (d x : D) : keepsS d x = row (maxId d.nodes + 1) (keepS d x) := rfl
theorem row_next (M : Nat) (f : Int → Int) : row (M + 1) f = row M f ++ [f (M : Int)] := by
  unfold row
  rw [List.range_succ, List.map_append]
  rfl
theorem lens_fallen {d : D} (hk : okD d) (hd : diskOk d = true) (k : Nat) (hks : k ≤ d.steps.length) (ks : List Int) : Lens (fallen d (k : Int) ks) := by
  unfold fallen
  rw [if_neg (by rw [hd]; simp)]
  have h1 := lens_six hk
  obtain ⟨l, hl, hle⟩ := right_hist hd hks
  have h4 := list_at hks hl
  have h2 := (ents_small hle).1
  rw [h4]
  refine ⟨?_, ?_, ?_, Nat.zero_le _⟩
  · show ((d.nodes.filter (stands _)).map (leftN ks)).length ≤ _
    rw [List.length_map]
    have := List.length_filter_le (stands l) d.nodes
    omega
  · show l.length ≤ _; omega
  · show l.length ≤ _; omega
theorem keep_no1 {d x : D} {id : Int} (h : nodeIx d.nodes id = none) : keepS d x id = 0 := by unfold keepS; rw [h]; rfl
theorem keep_no2 {d x : D} {id : Int} (h : nodeIx x.nodes id = none) : keepS d x id = 0 := by unfold keepS; rw [h]; simp
theorem keep_both {d x : D} {id : Int} {k j : Nat} {n m : Nod} (h : nodeIx d.nodes id = some k) (h2 : nodeIx x.nodes id = some j) (hn : d.nodes[k]? = some n) (hm : x.nodes[j]? = some m) : keepS d x id = (m.2.1.size : Int) - n.2.2 := by
  unfold keepS nodeOf
  rw [h, h2]
  show (if true && true then sizeR x.nodes[j]? - sureR d.nodes[k]? else 0) = _
  rw [hn, hm]
  rfl

set_option maxHeartbeats 8000000 in
set_option maxRecDepth 100000 in
theorem specCould (v u : Value) (d x : D) (w : World) (hk : okD d) (hkx : okD x) (hv : IsDisk w v d) (hu : IsDisk w u x) :
    Calls Tryz.prog 5 #[v, u] w fun e w' => e = .returned (.bool (couldB d x)) ∧ Below w.heap.size w w' := by
  obtain ⟨i0, hi, hz0, hz1, hz2⟩ := info_parts ints.Tryz.infoInt
  have hv0 := hv
  have hu0 := hu
  obtain ⟨aN, aE, aO, aS, nN, cN, nE, cE, nO, cO, nS, cS, rfl, hN, _, _, hS⟩ := hv
  obtain ⟨xN, xE, xO, xS, mN, eN, mE, eE, mO, eO, mS, eS, rfl, kN, _, kO, _⟩ := hu
  have l1 := lens_six hk
  have l2 := lens_six hkx
  obtain ⟨W, hW⟩ : ∃ W, W = (w.alloc (.cells #[.slice aN nN cN, .slice aE nE cE, .slice aO nO cO, .slice aS nS cS, .int .i64 d.room, .int .i64 d.next] 32)).alloc (.cells #[.slice xN mN eN, .slice xE mE eE, .slice xO mO eO, .slice xS mS eS, .int .i64 x.room, .int .i64 x.next] 32) := ⟨_, rfl⟩
  have hWB : Below w.heap.size w W := by rw [hW]; exact ((Below.refl _ _).alloc (Nat.le_refl _) _).alloc (by simp) _
  have hWs : W.heap.size = w.heap.size + 2 := by rw [hW]; simp
  have bx := show disk.Box W w.heap.size [.slice aN nN cN, .slice aE nE cE, .slice aO nO cO, .slice aS nS cS, .int .i64 d.room, .int .i64 d.next] from by rw [hW]; exact (Box.new _ #[.slice aN nN cN, .slice aE nE cE, .slice aO nO cO, .slice aS nS cS, .int .i64 d.room, .int .i64 d.next] _).below ((Below.refl _ _).alloc (Nat.le_refl _) _)
  have by' := show disk.Box W (w.heap.size + 1) [.slice xN mN eN, .slice xE mE eE, .slice xO mO eO, .slice xS mS eS, .int .i64 x.room, .int .i64 x.next] from by
    have h := Box.new (w.alloc (.cells #[.slice aN nN cN, .slice aE nE cE, .slice aO nO cO, .slice aS nS cS, .int .i64 d.room, .int .i64 d.next] 32)) #[.slice xN mN eN, .slice xE mE eE, .slice xO mO eO, .slice xS mS eS, .int .i64 x.room, .int .i64 x.next] 32
    rw [hW]
    simpa using h
  have x0 := bx.at 0 _ rfl
  have x1 := bx.at 1 _ rfl
  have x2 := bx.at 2 _ rfl
  have x3 := bx.at 3 _ rfl
  have x4 := bx.at 4 _ rfl
  have x5 := bx.at 5 _ rfl
  rw [hW] at x0 x1 x2 x3 x4 x5
  have BX := Lib.hid bx
  have BY := Lib.hid by'
  have HB := Lib.hid hWB
  have HWs := Lib.hid hWs
  have HW := Lib.hid hW
  have HV := Lib.hid (hv0.below hWB)
  have HU := Lib.hid (hu0.below hWB)
  have HN := Lib.hid (hN.below hWB)
  have KN := Lib.hid (kN.below hWB)
  have LN := Lib.hid hN.len
  have LS := Lib.hid hS.1
  have LK := Lib.hid kN.len
  have L1 := Lib.hid l1
  have L2 := Lib.hid l2
  have HK := Lib.hid hk
  have HKX := Lib.hid hkx
  have CK := Lib.hid (specDiskOk _ d W (okD.loose hk) (hv0.below hWB))
  obtain ⟨R, hR⟩ : ∃ R, couldB d x = R := ⟨_, rfl⟩
  rw [hR]
  have HR := Lib.hid hR
  clear hR hv0 hu0 hN kN kO hS l1 l2 hk hkx hWB hWs bx by' hW
  go_enter Tryz.func5, Tryz.ntmps5
  go_wp2_with (fail)
  rw [← HW.out]
  clear x0 x1 x2 x3 x4 x5
  refine CK.out.mono ?_
  rintro e w1 ⟨rfl, hb1⟩
  have B1 := Lib.hid hb1
  clear hb1 CK
  cases hdk : diskOk d with
  | false =>
    have HF := Lib.hid (show R = false by rw [← HR.out]; exact could_no1 hdk)
    clear hdk
    go_wp2
    go_ret
    exact ⟨by rw [HF.out]; rfl, HB.out.trans (B1.out.mono HB.out.size)⟩
  | true =>
    have HD := Lib.hid hdk
    clear hdk
    have y0 := (BY.out.below B1.out).at 0 _ rfl
    have y1 := (BY.out.below B1.out).at 1 _ rfl
    have y2 := (BY.out.below B1.out).at 2 _ rfl
    have y3 := (BY.out.below B1.out).at 3 _ rfl
    have y4 := (BY.out.below B1.out).at 4 _ rfl
    have y5 := (BY.out.below B1.out).at 5 _ rfl
    go_wp2_with (fail)
    clear y0 y1 y2 y3 y4 y5
    refine (specDiskOk _ x w1 (okD.loose HKX.out) (HU.out.below B1.out)).mono ?_
    rintro e w2 ⟨rfl, hb2⟩
    have B2 := Lib.hid (B1.out.trans (hb2.mono B1.out.size))
    clear hb2 B1
    cases hxk : diskOk x with
    | false =>
      have HF := Lib.hid (show R = false by rw [← HR.out]; exact could_no2 hxk)
      clear hxk
      go_wp2
      go_ret
      exact ⟨by rw [HF.out]; rfl, HB.out.trans (B2.out.mono HB.out.size)⟩
    | true =>
      have HX := Lib.hid hxk
      have FX := Lib.hid (fit_right HKX.out HX.out)
      have FD := Lib.hid (fit_right HK.out HD.out)
      clear hxk
      have LNN := Lib.hid (show nN ≤ 1048576 by have := L1.out; have := LN.out; omega)
      have LMN := Lib.hid (show mN ≤ 1048576 by have := L2.out; have := LK.out; omega)
      have LSS := Lib.hid (show nS ≤ 1048576 by have := L1.out; have := LS.out; omega)
      go_wp2_with (refine wpList_make_full _ (by rfl) _ _ 39 (by rfl) W.heap.size 3 i0 (.int .i64 0) 1 Tryz.underlying39 hi hz0 hz1 .i64 .i64 _ _ 0 (by rfl) (by rfl) ?_ ?_ ?_ ?_ ?_ ?_; omega; omega; (rw [hz2]; omega); (unfold maxLen; omega); exact B2.out.size; intro W3 hown3 hg3)
      have B3 := Lib.hid (show Below W.heap.size W W3 from B2.out.grown hg3 B2.out.size (fun k hk => by cases hk))
      have O3 := Lib.hid (show W3.ownsRow W.heap.size 3 1 (.slice (some ⟨w2.heap.size, 0, none⟩) 0 0) 0 ((row 0 (keepS d x)).map (Value.int .i64)) by rw [show (Value.int IntKind.i64 0).cells = #[.int .i64 0] from rfl, toList_madeCells_one] at hown3; simpa [row] using hown3)
      clear hown3 hg3
      go_loopw [6, 7] (fun z i wr => ∃ k m : Nat, k ≤ nN ∧ i = .int .i64 k ∧ z = .int .i64 m ∧ Hid (m = maxId (d.nodes.take k)) ∧ wr = W3) (fun _ i _ => nN - (intOf i).toNat)
      case atStart => exact ⟨0, 0, Nat.zero_le _, rfl, rfl, Lib.hid rfl, rfl⟩
      case round =>
        obtain ⟨k, m, hk, rfl, rfl, hf, rfl⟩ := hrel
        have x0 := (BX.out.below B3.out).at 0 _ rfl
        have lnn := LNN.out
        by_cases hlt : k < nN
        · obtain ⟨i, t, j, g, o, hx, rfl, hg, c1, c2, c3⟩ := (HN.out.below B3.out).get hlt
          have i0 : (0 : Int) ≤ (k : Int) := by omega
          have i1 : (k : Int) < (nN : Int) := by omega
          have HS := Lib.hid (max_snoc hx)
          have hb0 := ids_pos HD.out _ (List.mem_of_getElem? hx)
          have hb0 : 0 < i := hb0
          have HP := Lib.hid hb0
          clear hx
          by_cases hgt : (m : Int) < i
          · go_wp2
            go_roundw
            case rel => exact ⟨k + 1, i.toNat, by omega, by go_num, by rw [Value.int.injEq]; exact ⟨rfl, by have := HP.out; omega⟩, Lib.hid (by rw [HS.out, ← hf.out]; show i.toNat = max m i.toNat; omega), trivial⟩
            case measure => simp [intOf]; omega
          · go_wp2
            go_roundw
            case rel => exact ⟨k + 1, m, by omega, by go_num, rfl, Lib.hid (by rw [HS.out, ← hf.out]; show m = max m i.toNat; omega), trivial⟩
            case measure => simp [intOf]; omega
        · obtain rfl : nN = k := by omega
          have HM := Lib.hid (show maxId d.nodes = m by rw [hf.out, List.take_of_length_le (by rw [LN.out]; exact Nat.le_refl _)])
          clear hf hlt
          by_cases hbig : 100000 < m
          · have HF := Lib.hid (show R = false by rw [← HR.out]; exact could_no3 (by rw [HM.out]; exact hbig))
            go_wp2
            go_ret
            exact ⟨by rw [HF.out]; rfl, HB.out.trans (B3.out.mono HB.out.size)⟩
          · have HF := Lib.hid (show R = (List.range (d.steps.length + 1)).any fun k => sameB (fallen d (k : Int) (keepsS d x)) x by rw [← HR.out]; exact could_all HD.out HX.out (by rw [HM.out]; omega))
            have hm1 : m ≤ 100000 := by omega
            clear hbig
            go_wp2
            obtain ⟨wo, hwo⟩ : ∃ wo, wo = wr := ⟨_, rfl⟩
            subst hwo
            clear x0
            go_loopw [5, 8, 9, 10, 11] (fun q i _ _ _ wr => ∃ z : Nat, i = .int .i64 z ∧ z ≤ m + 1 ∧ Hid (wr.ownsRow W.heap.size 3 1 q z ((row z (keepS d x)).map (Value.int .i64))) ∧ Hid (Below W.heap.size W wr)) (fun _ i _ _ _ _ => m + 1 - (intOf i).toNat)
            case atStart => exact ⟨0, rfl, by omega, O3, B3⟩
            case round =>
              obtain ⟨z, rfl, hid, hown, hb⟩ := hrel
              by_cases hlt : z ≤ m
              · have HS := Lib.hid (row_next z (keepS d x))
                have g1 : (z : Int) ≤ (m : Int) := by omega
                obtain ⟨o1, ho1⟩ : ∃ o, nodeIx d.nodes (z : Int) = o := ⟨_, rfl⟩
                obtain ⟨o2, ho2⟩ : ∃ o, nodeIx x.nodes (z : Int) = o := ⟨_, rfl⟩
                have CN := Lib.hid (specNode _ d (z : Int) wr (by have := L1.out; unfold maxLen; omega) (HV.out.below hb.out))
                have CX := Lib.hid (fun w (hw : IsDisk w (.agg #[.slice xN mN eN, .slice xE mE eE, .slice xO mO eO, .slice xS mS eS, .int .i64 x.room, .int .i64 x.next]) x) => specNode _ x (z : Int) w (by have := L2.out; unfold maxLen; omega) hw)
                rw [ho1] at CN
                rw [ho2] at CX
                have H1 := Lib.hid ho1
                have H2 := Lib.hid ho2
                clear ho1 ho2
                have x0 := (BX.out.below hb.out).at 0 _ rfl
                have x1 := (BX.out.below hb.out).at 1 _ rfl
                have x2 := (BX.out.below hb.out).at 2 _ rfl
                have x3 := (BX.out.below hb.out).at 3 _ rfl
                have x4 := (BX.out.below hb.out).at 4 _ rfl
                have x5 := (BX.out.below hb.out).at 5 _ rfl
                go_wp2_with (fail)
                refine CN.out.mono ?_
                rintro e w4 ⟨rfl, hb4⟩
                have B4 := Lib.hid (hb.out.trans (hb4.mono hb.out.size))
                have O4 := Lib.hid (own_below hown.out hb4)
                clear hb4 x0 x1 x2 x3 x4 x5 CN
                have y0 := (BY.out.below B4.out).at 0 _ rfl
                have y1 := (BY.out.below B4.out).at 1 _ rfl
                have y2 := (BY.out.below B4.out).at 2 _ rfl
                have y3 := (BY.out.below B4.out).at 3 _ rfl
                have y4 := (BY.out.below B4.out).at 4 _ rfl
                have y5 := (BY.out.below B4.out).at 5 _ rfl
                go_wp2_with (fail)
                refine (CX.out w4 (HU.out.below B4.out)).mono ?_
                rintro e w5 ⟨rfl, hb5⟩
                have B5 := Lib.hid (B4.out.trans (hb5.mono B4.out.size))
                have O5 := Lib.hid (own_below O4.out hb5)
                clear hb5 y0 y1 y2 y3 y4 y5 CX hb hown
                cases o1 with
                | none =>
                  rw [show ixI none = -1 from rfl]
                  have HKP := Lib.hid (keep_no1 (x := x) H1.out)
                  go_wp2_with (at_builtin; refine list_app (by rfl) (.tmp 76) (.tmp 78) 39 (by rfl) W w5 3 i0 (.int .i64 0) 8 Tryz.underlying39 hi hz0 hz1 hz2 (by rfl) _ z _ O5.out B5.out [.int .i64 (0)] 1 ?_ ?_ ?_ ?_ (by rfl) (by rfl) (by rfl) ?_ ?_; rfl; simp [Value.oneCell']; unfold maxLen; omega; omega; exact ⟨rfl, rfl, rfl⟩; intro v' w' hown' hb')
                  have HT := Lib.hid (show w'.ownsRow W.heap.size 3 1 v' (z + 1) ((row (z + 1) (keepS d x)).map (Value.int .i64)) by rw [HS.out, HKP.out]; simpa using hown')
                  go_roundw
                  case rel => exact ⟨z + 1, by go_num, by omega, HT, Lib.hid hb'⟩
                  case measure => simp [intOf]; omega
                | some k1 =>
                  rw [show ixI (some k1) = (k1 : Int) from rfl]
                  have p1 : (0 : Int) ≤ (k1 : Int) := by omega
                  cases o2 with
                  | none =>
                    rw [show ixI none = -1 from rfl]
                    have HKP := Lib.hid (keep_no2 (d := d) H2.out)
                    go_wp2_with (at_builtin; refine list_app (by rfl) (.tmp 76) (.tmp 78) 39 (by rfl) W w5 3 i0 (.int .i64 0) 8 Tryz.underlying39 hi hz0 hz1 hz2 (by rfl) _ z _ O5.out B5.out [.int .i64 (0)] 1 ?_ ?_ ?_ ?_ (by rfl) (by rfl) (by rfl) ?_ ?_; rfl; simp [Value.oneCell']; unfold maxLen; omega; omega; exact ⟨rfl, rfl, rfl⟩; intro v' w' hown' hb')
                    have HT := Lib.hid (show w'.ownsRow W.heap.size 3 1 v' (z + 1) ((row (z + 1) (keepS d x)).map (Value.int .i64)) by rw [HS.out, HKP.out]; simpa using hown')
                    go_roundw
                    case rel => exact ⟨z + 1, by go_num, by omega, HT, Lib.hid hb'⟩
                    case measure => simp [intOf]; omega
                  | some j1 =>
                    rw [show ixI (some j1) = (j1 : Int) from rfl]
                    have p2 : (0 : Int) ≤ (j1 : Int) := by omega
                    obtain ⟨n1, hn1, _⟩ := nodeIx_lt _ _ _ H1.out
                    obtain ⟨n2, hn2, _⟩ := nodeIx_lt _ _ _ H2.out
                    have HKP := Lib.hid (keep_both H1.out H2.out hn1 hn2)
                    obtain ⟨_, f1, f2, f3⟩ := FD.out _ (List.mem_of_getElem? hn1)
                    obtain ⟨_, e1, e2, e3⟩ := FX.out _ (List.mem_of_getElem? hn2)
                    obtain ⟨i1, t1, r1⟩ := n1
                    obtain ⟨i2, t2, r2⟩ := n2
                    have HKP := Lib.hid (show keepS d x (z : Int) = (t2.size : Int) - r1 from HKP.out)
                    have f1 : (0 : Int) ≤ r1 := f1
                    have f2 : r1 ≤ (t1.size : Int) := f2
                    have f3 : t1.size ≤ 1048576 := f3
                    have e3 : t2.size ≤ 1048576 := e3
                    obtain ⟨gD, oD, eD, hgD, hkD, c1, c2, c3⟩ := (HN.out.below B5.out).nth hn1
                    obtain ⟨gX, oX, eX, hgX, hkX, k1', k2, k3⟩ := (KN.out.below B5.out).nth hn2
                    subst eD eX
                    have q1 : (k1 : Int) < (nN : Int) := by omega
                    have q2 : (j1 : Int) < (mN : Int) := by omega
                    have x0 := (BX.out.below B5.out).at 0 _ rfl
                    have y0 := (BY.out.below B5.out).at 0 _ rfl
                    clear hn1 hn2 e1 e2
                    go_wp2
                    go_region
                    obtain ⟨w6, hw6⟩ : ∃ w6, w6 = w5.drew := ⟨_, rfl⟩
                    have hb6 : Below w5.heap.size w5 w6 := by rw [hw6]; exact (Below.refl _ _).drew
                    have B6 := Lib.hid (B5.out.trans (hb6.mono B5.out.size))
                    have O6 := Lib.hid (own_below O5.out hb6)
                    rw [← hw6]
                    clear hw6 hb6 c1 c2 c3 k1' k2 k3 x0 y0
                    go_wp2_with (at_builtin; refine list_app (by rfl) (.tmp 76) (.tmp 78) 39 (by rfl) W w6 3 i0 (.int .i64 0) 8 Tryz.underlying39 hi hz0 hz1 hz2 (by rfl) _ z _ O6.out B6.out [.int .i64 ((t2.size : Int) - r1)] 1 ?_ ?_ ?_ ?_ (by rfl) (by rfl) (by rfl) ?_ ?_; rfl; simp [Value.oneCell']; unfold maxLen; omega; omega; exact ⟨rfl, rfl, rfl⟩; intro v' w' hown' hb')
                    have HT := Lib.hid (show w'.ownsRow W.heap.size 3 1 v' (z + 1) ((row (z + 1) (keepS d x)).map (Value.int .i64)) by rw [HS.out, HKP.out]; simpa using hown')
                    go_roundw
                    case rel => exact ⟨z + 1, by go_num, by omega, HT, Lib.hid hb'⟩
                    case measure => simp [intOf]; omega
              · obtain rfl : z = m + 1 := by omega
                have x3 := (BX.out.below hb.out).at 3 _ rfl
                obtain ⟨aK, cK, rfl, _, _⟩ := own_shape hown.out
                have K3 := Lib.hid (show AtI wr aK (m + 1) (keepsS d x) by rw [keeps_row_s, HM.out]; exact own_cells hown.out)
                have HM1 := Lib.hid (show m + 1 ≤ 1048576 by omega)
                clear hown hlt
                go_wp2
                generalize hN : m + 1 = N at K3 HM1
                clear hN
                obtain ⟨wo2, hwo2⟩ : ∃ wo2, wo2 = wr := ⟨_, rfl⟩
                subst hwo2
                clear x3
                go_loopw [12] (fun i wr => ∃ k : Nat, i = .int .i64 k ∧ k ≤ nS + 1 ∧ Hid ((List.range k).any (fun j => sameB (fallen d (j : Int) (keepsS d x)) x) = false) ∧ Hid (AtI wr aK N (keepsS d x)) ∧ Hid (Below W.heap.size W wr)) (fun i _ => nS + 1 - (intOf i).toNat)
                case atStart => exact ⟨0, rfl, by omega, Lib.hid rfl, K3, hb⟩
                case round =>
                  obtain ⟨k, rfl, hk, hf, hK, hb⟩ := hrel
                  have lss := LSS.out
                  have x0 := (BX.out.below hb.out).at 0 _ rfl
                  have x1 := (BX.out.below hb.out).at 1 _ rfl
                  have x2 := (BX.out.below hb.out).at 2 _ rfl
                  have x3 := (BX.out.below hb.out).at 3 _ rfl
                  have x4 := (BX.out.below hb.out).at 4 _ rfl
                  have x5 := (BX.out.below hb.out).at 5 _ rfl
                  by_cases hlt : k ≤ nS
                  · have g1 : (k : Int) ≤ (nS : Int) := by omega
                    have y0 := (BY.out.below hb.out).at 0 _ rfl
                    have y1 := (BY.out.below hb.out).at 1 _ rfl
                    have y2 := (BY.out.below hb.out).at 2 _ rfl
                    have y3 := (BY.out.below hb.out).at 3 _ rfl
                    have y4 := (BY.out.below hb.out).at 4 _ rfl
                    have y5 := (BY.out.below hb.out).at 5 _ rfl
                    have VK := Lib.hid (HV.out.below (hb.out.drew))
                    have KK := Lib.hid (show AtI wr.drew aK N (keepsS d x) from (show Cells wr aK N 1 _ from hK.out).below (Below.refl wr.heap.size wr).drew)
                    have LF := Lib.hid (lens_fallen HK.out HD.out k (by rw [LS.out]; exact hlt) (keepsS d x))
                    go_wp2
                    go_region_held3 (fun w' => w'.cell? ⟨w.heap.size, 0, none⟩ = some (.slice aN nN cN) ∧ w'.cell? ⟨w.heap.size, 1, none⟩ = some (.slice aE nE cE) ∧ w'.cell? ⟨w.heap.size, 2, none⟩ = some (.slice aO nO cO) ∧ w'.cell? ⟨w.heap.size, 3, none⟩ = some (.slice aS nS cS) ∧ w'.cell? ⟨w.heap.size, 4, none⟩ = some (.int .i64 d.room) ∧ w'.cell? ⟨w.heap.size, 5, none⟩ = some (.int .i64 d.next) ∧ w'.cell? ⟨w.heap.size + 1, 0, none⟩ = some (.slice xN mN eN) ∧ w'.cell? ⟨w.heap.size + 1, 1, none⟩ = some (.slice xE mE eE) ∧ w'.cell? ⟨w.heap.size + 1, 2, none⟩ = some (.slice xO mO eO) ∧ w'.cell? ⟨w.heap.size + 1, 3, none⟩ = some (.slice xS mS eS) ∧ w'.cell? ⟨w.heap.size + 1, 4, none⟩ = some (.int .i64 x.room) ∧ w'.cell? ⟨w.heap.size + 1, 5, none⟩ = some (.int .i64 x.next)) (first | exact ⟨x0, x1, x2, x3, x4, x5, y0, y1, y2, y3, y4, y5⟩ | exact ⟨(BX.out.below B7.out).at 0 _ rfl, (BX.out.below B7.out).at 1 _ rfl, (BX.out.below B7.out).at 2 _ rfl, (BX.out.below B7.out).at 3 _ rfl, (BX.out.below B7.out).at 4 _ rfl, (BX.out.below B7.out).at 5 _ rfl, (BY.out.below B7.out).at 0 _ rfl, (BY.out.below B7.out).at 1 _ rfl, (BY.out.below B7.out).at 2 _ rfl, (BY.out.below B7.out).at 3 _ rfl, (BY.out.below B7.out).at 4 _ rfl, (BY.out.below B7.out).at 5 _ rfl⟩ | exact ⟨(BX.out.below B8.out).at 0 _ rfl, (BX.out.below B8.out).at 1 _ rfl, (BX.out.below B8.out).at 2 _ rfl, (BX.out.below B8.out).at 3 _ rfl, (BX.out.below B8.out).at 4 _ rfl, (BX.out.below B8.out).at 5 _ rfl, (BY.out.below B8.out).at 0 _ rfl, (BY.out.below B8.out).at 1 _ rfl, (BY.out.below B8.out).at 2 _ rfl, (BY.out.below B8.out).at 3 _ rfl, (BY.out.below B8.out).at 4 _ rfl, (BY.out.below B8.out).at 5 _ rfl⟩) (first | (go_at_call 15; refine (specFallen _ d (k : Int) aK N cK (keepsS d x) _ HK.out KK.out HM1.out VK.out).mono ?_; rintro e w7 ⟨u7, rfl, ho7, hb7⟩; have D7 := Lib.hid (show Below wr.heap.size wr w7 from (Below.refl wr.heap.size wr).drew.trans hb7); have B7 := Lib.hid (hb.out.trans (D7.out.mono hb.out.size)); have I7 := Lib.hid ho7.is; clear ho7 hb7) | (go_at_call 14; refine (specSameDisk u7 _ (fallen d (k : Int) (keepsS d x)) x w7 LF.out (lens HKX.out) I7.out (HU.out.below B7.out)).mono ?_; rintro e w8 ⟨rfl, hb8⟩; have B8 := Lib.hid (B7.out.trans (hb8.mono B7.out.size)); have D8 := Lib.hid (D7.out.trans (hb8.mono D7.out.size)); clear hb8))
                    have K8 := Lib.hid (show AtI w8 aK N (keepsS d x) from (show Cells wr aK N 1 _ from hK.out).below D8.out)
                    clear x0 x1 x2 x3 x4 x5 y0 y1 y2 y3 y4 y5
                    cases hs : sameB (fallen d (k : Int) (keepsS d x)) x with
                    | true =>
                      have HF2 := Lib.hid (show R = true by rw [HF.out, List.any_eq_true]; exact ⟨k, List.mem_range.2 (by rw [LS.out]; omega), hs⟩)
                      clear hs
                      go_wp2
                      go_ret
                      exact ⟨by rw [HF2.out]; rfl, HB.out.trans (B8.out.mono HB.out.size)⟩
                    | false =>
                      have HF2 := Lib.hid (show (List.range (k + 1)).any (fun j => sameB (fallen d (j : Int) (keepsS d x)) x) = false by rw [ik.any_next, hf.out, hs]; rfl)
                      clear hs
                      go_wp2
                      go_roundw
                      case rel => exact ⟨k + 1, by go_num, by omega, HF2, K8, B8⟩
                      case measure => simp [intOf]; omega
                  · obtain rfl : k = nS + 1 := by omega
                    have HF2 := Lib.hid (show R = false by rw [HF.out, LS.out]; exact hf.out)
                    clear hf hlt
                    go_wp2
                    go_ret
                    exact ⟨by rw [HF2.out]; rfl, HB.out.trans (hb.out.mono HB.out.size)⟩

end Go.Proofs.YtkibddcjogfklaaGreatDoor.fall
