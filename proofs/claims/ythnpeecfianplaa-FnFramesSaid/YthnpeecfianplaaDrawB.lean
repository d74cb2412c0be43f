/-
  Contracts of the draws' further helpers: l01Below at any bound, l01Once, l01Pick, l01PickInt, l01Text.
-/
import Derived.Test.YthnpeecfianplaaDraw
namespace Go.Proofs.Ythnpeecfianplaa.draw
open Go.RowKit
open kit

set_option maxHeartbeats 400000 in
theorem below_few (B c : Nat) (a : Option Addr) (len cap : Nat) (n : Int) (w : World) (hBc : B ≤ c) (hc : CodeAt w B a len) (hu : Cur w c a len cap) (h0 : 0 < n) (h1 : n ≤ 256) :
    Calls Try.prog 28 #[.pointer (some ⟨c, 0, none⟩), .int .i64 n] w (PostB c a len cap (n - 1) w) := by
  go_enter Try.func28, Try.ntmps28
  go_wp2_with fail
  refine (byte_any B c a len cap w hBc hc hu).mono ?_
  rintro e w1 ⟨⟨x1, l1, m1, rfl⟩, u1, g1⟩
  clear hc hu
  go_wp2
  go_ret
  have r1 := Int.emod_nonneg x1 (show n ≠ 0 by omega)
  have r2 := Int.emod_lt_of_pos x1 (show 0 < n by omega)
  exact ⟨⟨_, r1, by omega, rfl⟩, u1, g1⟩
theorem below_any (B c : Nat) (a : Option Addr) (len cap : Nat) (n : Int) (w : World) (hBc : B ≤ c) (hB : B ≤ w.heap.size) (hc : CodeAt w B a len) (hu : Cur w c a len cap) (h0 : 0 < n) (h1 : n ≤ 1000000000) :
    Calls Try.prog 28 #[.pointer (some ⟨c, 0, none⟩), .int .i64 n] w (PostB c a len cap (n - 1) w) := by
  by_cases h : n ≤ 256
  · exact below_few B c a len cap n w hBc hc hu h0 h
  · exact below_many B c a len cap n w hBc hB hc hu (by omega) h1

/-- a truth value; only the cursor is written -/
def PostT (c : Nat) (a : Option Addr) (len cap : Nat) (w : World) (e : Ending) (w' : World) : Prop :=
  (∃ b : Bool, e = .returned (.bool b)) ∧ Cur w' c a len cap ∧ w.grownBy w' (some c)
theorem once_any (B c : Nat) (a : Option Addr) (len cap : Nat) (n : Int) (w : World) (hBc : B ≤ c) (hB : B ≤ w.heap.size) (hc : CodeAt w B a len) (hu : Cur w c a len cap) (h0 : 0 < n) (h1 : n ≤ 1000000000) :
    Calls Try.prog 32 #[.pointer (some ⟨c, 0, none⟩), .int .i64 n] w (PostT c a len cap w) := by
  go_enter Try.func32, Try.ntmps32
  go_wp2_with fail
  refine (below_any B c a len cap n w hBc hB hc hu h0 h1).mono ?_
  rintro e w1 ⟨⟨x1, l1, m1, rfl⟩, u1, g1⟩
  clear hc hu
  go_wp2
  all_goals go_ret
  all_goals exact ⟨⟨_, rfl⟩, u1, g1⟩

/-- one of the listed values; only the cursor is written -/
def PostV (c : Nat) (a : Option Addr) (len cap : Nat) (l : List Value) (w : World) (e : Ending) (w' : World) : Prop :=
  (∃ v, v ∈ l ∧ e = .returned v) ∧ Cur w' c a len cap ∧ w.grownBy w' (some c)
theorem pickInt_any (B c g m k : Nat) (a : Option Addr) (len cap : Nat) (xs : List Int) (w : World) (hBc : B ≤ c) (hB : B ≤ w.heap.size) (hc : CodeAt w B a len) (hu : Cur w c a len cap)
    (hg : g < w.heap.size) (hne : g ≠ c) (hm : xs.length = m) (h0 : 0 < m) (h1 : m ≤ 1000) (hx : ∀ j, j < m → w.cell? ⟨g, j, none⟩ = (xs.map (Value.int .i64))[j]?) :
    Calls Try.prog 33 #[.pointer (some ⟨c, 0, none⟩), .slice (some ⟨g, 0, none⟩) m k] w (PostV c a len cap (xs.map (Value.int .i64)) w) := by
  have HX := Lib.hid hx
  have HM := Lib.hid hm
  clear hx hm
  go_enter Try.func33, Try.ntmps33
  go_wp2_with fail
  refine (below_any B c a len cap (m : Int) w hBc hB hc hu (by omega) (by omega)).mono ?_
  rintro e w1 ⟨⟨x1, l1, m1, rfl⟩, u1, g1⟩
  obtain ⟨j, rfl⟩ := Int.eq_ofNat_of_zero_le l1
  have hjm : j < m := by omega
  obtain ⟨y, hy⟩ : ∃ y, xs[j]? = some y := ⟨_, List.getElem?_eq_getElem (by rw [HM.out]; exact hjm)⟩
  have hcell : w1.cell? ⟨g, j, none⟩ = some (.int .i64 y) := by
    rw [World.cell?_of_block (w := w) (w' := w1) (a := ⟨g, j, none⟩) (g1.block g hg (fun e => hne (by injection e))), HX.out j hjm, List.getElem?_map, hy]
    rfl
  have HY := Lib.hid (show Value.int .i64 y ∈ xs.map (Value.int .i64) from List.mem_map.2 ⟨y, List.mem_of_getElem? hy, rfl⟩)
  have i0 : (0 : Int) ≤ (j : Int) := by omega
  have i1 : (j : Int) < (m : Int) := by omega
  clear hc hu hy m1
  go_wp2
  go_ret
  exact ⟨⟨_, HY.out, rfl⟩, u1, g1⟩

end Go.Proofs.Ythnpeecfianplaa.draw
