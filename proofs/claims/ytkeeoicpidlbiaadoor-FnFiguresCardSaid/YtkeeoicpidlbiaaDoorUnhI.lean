/-
  The contract of impl.Unhex.
-/
import Derived.Test.YtkeeoicpidlbiaaDoorKit
import Derived.Test.YtkeeoicpidlbiaaDoorShelf
import Derived.Laws.OwnMore
namespace Go.Proofs.YtkeeoicpidlbiaaDoor.unh
open Go.RowKit
open kit

def hvI (x : Int) : Int := if 48 ≤ x ∧ x ≤ 57 then x - 48 else if 97 ≤ x ∧ x ≤ 102 then x - 97 + 10 else -1
theorem hvI_bd (x : Int) : -1 ≤ hvI x ∧ hvI x ≤ 15 := by unfold hvI; split <;> (try split) <;> omega

/-- byte j of a text -/
def bt (s : ByteArray) (j : Nat) : Int := ((s.data.toList.getD j 0).toNat : Int)
theorem bt_eq (s : ByteArray) (j : Nat) (h : j < s.size) : bt s j = (s[j].toNat : Int) := by
  unfold bt
  have h' : j < s.data.toList.length := by simpa using h
  simp only [List.getD, List.getElem?_eq_getElem h', Option.getD_some]
  rfl

def okAt (s : ByteArray) (i : Nat) : Bool := decide (0 ≤ hvI (bt s (2 * i))) && decide (0 ≤ hvI (bt s (2 * i + 1)))
def okTo (s : ByteArray) (n : Nat) : Bool := (List.range n).all (okAt s)
def uI (s : ByteArray) (n : Nat) : List Int := (List.range n).map fun i => 16 * hvI (bt s (2 * i)) + hvI (bt s (2 * i + 1))

theorem okTo_succ (s : ByteArray) (k : Nat) : okTo s (k + 1) = (okTo s k && okAt s k) := by simp [okTo, List.range_succ]
theorem okTo_no (s : ByteArray) (k n : Nat) (hk : k < n) (h : okAt s k = false) : okTo s n = false := by
  unfold okTo
  rw [List.all_eq_false]
  exact ⟨k, List.mem_range.2 hk, by simp [h]⟩
theorem uI_succ (s : ByteArray) (k : Nat) : uI s (k + 1) = uI s k ++ [16 * hvI (bt s (2 * k)) + hvI (bt s (2 * k + 1))] := by simp [uI, List.range_succ]
theorem uI_length (s : ByteArray) (k : Nat) : (uI s k).length = k := by simp [uI]

def unhV (s : ByteArray) : Value := if okTo s (s.size / 2) = true then .tuple #[.string (strOfNums (uI s (s.size / 2))), .bool true] else .tuple #[.string { data := #[] }, .bool false]
theorem unhV_yes (s : ByteArray) (h : okTo s (s.size / 2) = true) : unhV s = .tuple #[.string (strOfNums (uI s (s.size / 2))), .bool true] := if_pos h
theorem unhV_no (s : ByteArray) (h : okTo s (s.size / 2) = false) : unhV s = .tuple #[.string { data := #[] }, .bool false] := if_neg (by simp [h])

theorem Tryd.info5 : (Tryd.prog.info? 5).map (fun i => (i.zero, i.size, i.bytes)) = some (some (.int .u8 0), 1, 1) := by kernel_rfl

theorem index_hv' : ∀ c : Fin 256, Lib.indexByte [48, 49, 50, 51, 52, 53, 54, 55, 56, 57, 97, 98, 99, 100, 101, 102] ((c.val : Int).toNat.toUInt8) = hvI c.val := by decide +kernel
theorem index_hv (x : Int) (h0 : 0 ≤ x) (h1 : x ≤ 255) : Lib.indexByte [48, 49, 50, 51, 52, 53, 54, 55, 56, 57, 97, 98, 99, 100, 101, 102] (x.toNat.toUInt8) = hvI x := by
  have := index_hv' ⟨x.toNat, by omega⟩
  simp only [Int.toNat_of_nonneg h0] at this
  exact this

theorem index_any (x : Int) (w : World) (h0 : 0 ≤ x) (h1 : x ≤ 255) :
    Calls Tryd.prog 18 #[.string { data := #[48, 49, 50, 51, 52, 53, 54, 55, 56, 57, 97, 98, 99, 100, 101, 102] }, .int .u8 x] w fun e w' => e = .returned (.int .i64 (hvI x)) ∧ w = w' :=
  (Tryd.strings_IndexByte _ x w).mono fun e w' ⟨h1', h2⟩ => ⟨h1'.trans (by rw [← index_hv x h0 h1]), h2.symm⟩

theorem or16' : ∀ p q : Fin 16, bits BinOp.or IntKind.i64 ((p.val : Int) * 16) q.val = 16 * (p.val : Int) + q.val := by decide +kernel
theorem or16 (p q : Int) (h0 : 0 ≤ p) (h1 : p ≤ 15) (h2 : 0 ≤ q) (h3 : q ≤ 15) : bits BinOp.or IntKind.i64 (p * 16) q = 16 * p + q := by
  have := or16' ⟨p.toNat, by omega⟩ ⟨q.toNat, by omega⟩
  simp only [Int.toNat_of_nonneg h0, Int.toNat_of_nonneg h2] at this
  exact this

/-- the row of impl.Unhex behind k rounds -/
def rowI (s : ByteArray) (n k : Nat) : List Int := uI s k ++ List.replicate (n - k) 0
theorem rowI_length (s : ByteArray) (n k : Nat) (h : k ≤ n) : (rowI s n k).length = n := by simp [rowI, uI_length]; omega
theorem rowI_set (s : ByteArray) (n k : Nat) (h : k < n) (v : Int) (hv : v = 16 * hvI (bt s (2 * k)) + hvI (bt s (2 * k + 1))) :
    ((rowI s n k).map (Value.int .u8)).set k (.int .u8 v) = (rowI s n (k + 1)).map (Value.int .u8) := by
  subst hv
  unfold rowI
  rw [uI_succ, ← List.map_set, List.set_append_right _ _ (by rw [uI_length]; omega), uI_length, Nat.sub_self]
  obtain ⟨m, hm⟩ : ∃ m, n - k = m + 1 := ⟨n - k - 1, by omega⟩
  have hm2 : n - (k + 1) = m := by omega
  rw [hm, hm2, List.replicate_succ, List.set_cons_zero]
  simp

set_option maxHeartbeats 400000 in
theorem implUnhex_any (s : ByteArray) (w : World) (hs : s.size ≤ 40000) (he : s.size % 2 = 0) :
    Calls Tryd.prog 10 #[.string s] w fun e w' => e = .returned (unhV s) ∧ Below w.heap.size w w' := by
  obtain ⟨i0, hi, hz0, hz1, hz2⟩ := info_parts Tryd.info5
  have hne : (((s.size : Int) % 2) != 0) = false := by rw [bne_eq_false_iff_eq]; omega
  have HE := Lib.hid he
  clear he
  go_enter Tryd.func10, Tryd.ntmps10
  go_wp2_with (refine wpList_make_full _ (by rfl) _ _ 22 (by rfl) w.heap.size 5 i0 (.int .u8 0) 1 Tryd.underlying22 hi hz0 hz1 .i64 .i64 _ _ (s.size / 2) (by rfl) (by rfl) ?_ ?_ ?_ ?_ ?_ ?_; omega; omega; (rw [hz2]; omega); (unfold maxLen; omega); exact Nat.le_refl _; intro w1 hown1 hg1)
  have hb1 : Below w.heap.size w w1 := (Below.refl _ _).grown hg1 (Nat.le_refl _) (fun k hk => by cases hk)
  have hown2 : w1.ownsRow w.heap.size 5 1 (.slice (some ⟨w.heap.size, 0, none⟩) (s.size / 2) (s.size / 2)) (s.size / 2) ((rowI s (s.size / 2) 0).map (Value.int .u8)) := by
    rw [show (Value.int IntKind.u8 0).cells = #[.int .u8 0] from rfl, toList_madeCells_one] at hown1
    simpa [rowI, uI] using hown1
  clear hown1
  go_loopw [5, 6, 7, 23] (fun _ _ _ i wr => ∃ k : Nat, k ≤ s.size / 2 ∧ i = .int .i64 k ∧ okTo s k = true ∧ wr.ownsRow w.heap.size 5 1 (.slice (some ⟨w.heap.size, 0, none⟩) (s.size / 2) (s.size / 2)) (s.size / 2) ((rowI s (s.size / 2) k).map (Value.int .u8)) ∧ Below w.heap.size w wr) (fun _ _ _ i _ => s.size - (intOf i).toNat)
  case atStart => exact ⟨0, Nat.zero_le _, rfl, rfl, hown2, hb1⟩
  case round =>
    obtain ⟨k, hk, rfl, hok, hown, hb⟩ := hrel
    have HK := Lib.hid hok
    clear hok
    by_cases hlt : k < s.size / 2
    · have hlt1 : 2 * k < s.size := by omega
      have hlt2 : 2 * k + 1 < s.size := by have := HE.out; omega
      have hc1 : s[2 * k].toNat < 256 := s[2 * k].toNat_lt
      have hc2 : s[2 * k + 1].toNat < 256 := s[2 * k + 1].toNat_lt
      have b1 := hvI_bd (s[2 * k].toNat : Int)
      have b2 := hvI_bd (s[2 * k + 1].toNat : Int)
      have e1 := Lib.hid (bt_eq s (2 * k) hlt1)
      have e2 := Lib.hid (bt_eq s (2 * k + 1) hlt2)
      by_cases h1 : hvI (s[2 * k].toNat : Int) < 0
      · have hno := Lib.hid (unhV_no s (okTo_no s k _ (by omega) (by unfold okAt; rw [e1.out]; simp; omega)))
        go_wp2_with (go_at_call 18; refine (index_any _ _ ?_ ?_).mono ?_; omega; omega; rintro e w' ⟨rfl, rfl⟩)
        go_ret2
        exact ⟨by rw [hno.out]; rfl, hb⟩
      · by_cases h2 : hvI (s[2 * k + 1].toNat : Int) < 0
        · have hno := Lib.hid (unhV_no s (okTo_no s k _ (by omega) (by unfold okAt; rw [e2.out]; simp; omega)))
          go_wp2_with (go_at_call 18; refine (index_any _ _ ?_ ?_).mono ?_; omega; omega; rintro e w' ⟨rfl, rfl⟩)
          go_ret2
          exact ⟨by rw [hno.out]; rfl, hb⟩
        · have hyes := Lib.hid (show okAt s k = true by unfold okAt; rw [e1.out, e2.out]; simp; omega)
          have hor := Lib.hid (show bits BinOp.or IntKind.i64 (hvI (s[2 * k].toNat : Int) * 16) (hvI (s[2 * k + 1].toNat : Int)) % 256 = 16 * hvI (s[2 * k].toNat : Int) + hvI (s[2 * k + 1].toNat : Int) by
            rw [or16 (hvI (s[2 * k].toNat : Int)) (hvI (s[2 * k + 1].toNat : Int)) (by omega) (by omega) (by omega) (by omega)]; omega)
          obtain ⟨u, hcell⟩ : ∃ u, wr.cell? ⟨w.heap.size, k, none⟩ = some u := by
            rw [hown.cellAt k (by omega)]
            exact ⟨_, List.getElem?_eq_getElem (by rw [List.length_map, rowI_length _ _ _ hk]; exact hlt)⟩
          have hfrz := hown.frozenAt k
          go_wp2_with (go_at_call 18; refine (index_any _ _ ?_ ?_).mono ?_; omega; omega; rintro e w' ⟨rfl, rfl⟩)
          have hst := hown.stored k (.int .u8 (16 * hvI (s[2 * k].toNat : Int) + hvI (s[2 * k + 1].toNat : Int)))
          go_roundw
          case rel =>
            rw [hor.out]
            refine ⟨k + 1, by omega, by go_num, by rw [okTo_succ, HK.out, hyes.out]; rfl, ?_, hb.setCell (Nat.le_refl _) _⟩
            rw [← rowI_set s (s.size / 2) k hlt _ (by rw [e1.out, e2.out])]
            exact hst.1
          case measure => simp [intOf]; omega
    · obtain rfl : k = s.size / 2 := by omega
      have hfull : rowI s (s.size / 2) (s.size / 2) = uI s (s.size / 2) := by simp [rowI]
      rw [hfull] at hown
      clear hfull
      have hcv := conv_own Tryd.underlying22 Tryd.underlying5 hown
      have hyes := Lib.hid (unhV_yes s HK.out)
      go_wp2
      go_ret2
      exact ⟨by rw [hyes.out]; rfl, hb⟩

theorem implUnhex_odd (s : ByteArray) (w : World) (hm : s.size ≤ 9223372036854775807) (he : 40000 < s.size ∨ s.size % 2 = 1) :
    Calls Tryd.prog 10 #[.string s] w fun e w' => e = .returned (.tuple #[.string { data := #[] }, .bool false]) ∧ w = w' := by
  by_cases h : s.size % 2 = 1
  · have hne : (((s.size : Int) % 2) != 0) = true := by rw [bne_iff_ne]; omega
    clear he h
    go_enter Tryd.func10, Tryd.ntmps10
    go_wp2
    go_ret2
    exact ⟨rfl, rfl⟩
  · have hne : (((s.size : Int) % 2) != 0) = false := by rw [bne_eq_false_iff_eq]; omega
    have h2 : 40000 < s.size := by omega
    clear he h
    go_enter Tryd.func10, Tryd.ntmps10
    go_wp2
    go_ret2
    exact ⟨rfl, rfl⟩

end Go.Proofs.YtkeeoicpidlbiaaDoor.unh
