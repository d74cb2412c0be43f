/-
  Draws of offsets, places and what is read as such.
-/
import Derived.Test.YtpibemlganeacaaGreatDoorPlC
import Derived.Test.YtpibemlganeacaaGreatDoorPlV
import Derived.Test.YtpibemlganeacaaGreatDoorHdP
import Derived.Test.YtpibemlganeacaaGreatDoorTbQ
namespace Go.Proofs.YtpibemlganeacaaGreatDoor.draw
set_option maxRecDepth 20000
open Go.RowKit
open kit hd sc pl

/-- a list of numbers of the call's own; only the cursor is written -/
def PostO (c : Nat) (a : Option Addr) (len cap most : Nat) (w : World) (e : Ending) (w' : World) : Prop :=
  (∃ (v : Value) (n : Nat) (os : List Int), e = .returned v ∧ n ≤ most ∧ (∀ o ∈ os, i64 o) ∧ w'.ownsRow w.heap.size 3 1 v n (os.map (Value.int .i64))) ∧ Cur w' c a len cap ∧ w.grownBy w' (some c)
theorem i64_of {x : Int} (h0 : -9223372036854775808 ≤ x) (h1 : x ≤ 9223372036854775807) : i64 x := ⟨h0, h1⟩
/-- one of the listed numbers, the list being made for it -/
theorem pickNew (B c m : Nat) (a : Option Addr) (len cap : Nat) (xs : List Int) (w : World) (hBc : B ≤ c) (hcw : c < w.heap.size) (hc : CodeAt w B a len) (hu : Cur w c a len cap) (hm : xs.length = m) (h0 : 0 < m) (h1 : m ≤ 1000) :
    Calls Tryz.prog 32 #[.pointer (some ⟨c, 0, none⟩), .slice (some ⟨w.heap.size, 0, none⟩) m m] (w.alloc (.cells (xs.map (Value.int .i64)).toArray 3)) fun e w' => (∃ x, x ∈ xs ∧ e = .returned (.int .i64 x)) ∧ Cur w' c a len cap ∧ w.grownBy w' (some c) := by
  refine (pickInt_any B c w.heap.size m m a len cap xs _ hBc (by simp; omega) (hc.below ((Below.refl _ _).alloc (by omega) _)) (hu.below ((Below.refl _ _).alloc (by omega) _)) (by simp) (by omega) hm h0 h1 (fun j hj => ?_)).mono ?_
  · rw [cell_of_row _ _ _ _ _ _ (heap_alloc_new w _)]
    simp
  · rintro e w' ⟨⟨v, hv, rfl⟩, u1, g1⟩
    obtain ⟨x, hx, rfl⟩ := List.mem_map.1 hv
    exact ⟨⟨x, hx, rfl⟩, u1, grown_trans (World.grownBy_alloc w _ _) g1⟩

set_option maxHeartbeats 2000000 in
theorem offsets11_any (B c : Nat) (a : Option Addr) (len cap : Nat) (w : World) (hBc : B ≤ c) (hcw : c < w.heap.size) (hc : CodeAt w B a len) (hu : Cur w c a len cap) :
    Calls Tryz.prog 31 #[.pointer (some ⟨c, 0, none⟩)] w (PostO c a len cap 9 w) := by
  obtain ⟨i0, hi, hz0, hz1, hz2⟩ := info_parts ints.Tryz.infoInt
  go_enter Tryz.func31, Tryz.ntmps31
  go_wp2
  go_loopw [3, 4, 5] (fun v at_ i wr => ∃ (k : Nat) (p : Int) (os : List Int), k ≤ 8 ∧ i = .int .i64 k ∧ at_ = .int .i64 p ∧ 24 ≤ p ∧ p ≤ 24 + 44 * k ∧ Hid (∀ o ∈ os, i64 o) ∧ wr.ownsRow w.heap.size 3 1 v k (os.map (Value.int .i64)) ∧ Cur wr c a len cap ∧ CodeAt wr B a len ∧ w.grownBy wr (some c)) (fun _ _ i _ => 9 - (intOf i).toNat)
  case atStart => exact ⟨0, 24, [], Nat.zero_le _, rfl, rfl, by omega, by omega, Lib.hid (fun x hx => by cases hx), World.ownsRow_made _ _ _ (Nat.le_refl _) (by decide) rfl, hu.below ((Below.refl _ _).alloc (by omega) _), hc.below ((Below.refl _ _).alloc (by omega) _), World.grownBy_alloc _ _ _⟩
  case round =>
    obtain ⟨k, p, os, hk, rfl, rfl, p0, p1, hx, hown, hcur, hcode, hgr⟩ := hrel
    have hsz := hgr.size
    go_wp2_with fail
    refine (below_any B c a len cap 9 wr hBc (by omega) hcode hcur (by omega) (by omega)).mono ?_
    rintro e w1 ⟨⟨z, l1, m1, rfl⟩, u1, g1⟩
    have k1 := hcode.grown hBc (by omega) g1
    have own1 := hown.kept g1 (own_ne (own_base hown (by omega)))
    have G1 := grown_trans hgr g1
    have s1 := G1.size
    clear hown hcur hcode hgr g1
    by_cases hlt : (k : Int) < z
    · have hkm : k < 8 := by omega
      go_wp2_with (first | (go_at_call 30; refine (below_any B c a len cap 40 w2 hBc (by omega) k2 u2 (by decide) (by decide)).mono ?_; rintro e w3 ⟨⟨q, q0, q1, rfl⟩, u3, g3⟩; have own3 := hown2.kept g3 (own_ne (own_base hown2 (by omega))); have code3 := k2.grown hBc (by omega) g3) | (at_builtin; refine list_app2 (by rfl) (.tmp 13) (.tmp 15) 49 (by rfl) w.heap.size w1 3 i0 (.int .i64 0) 8 Tryz.underlying49 hi hz0 hz1 hz2 (by rfl) _ k _ own1 ?_ [.int .i64 p] 1 ?_ ?_ ?_ ?_ (by rfl) (by rfl) (by rfl) ?_ ?_; exact s1; rfl; simp [Value.oneCell']; unfold maxLen; omega; omega; exact ⟨rfl, rfl, rfl⟩; intro v2 w2 hown2 hb2; have u2 := u1.below (hb2.mono (by omega)); have k2 := k1.below (hb2.mono (by omega)); have G2 := grown_below G1 hb2; have s2 := G2.size))
      go_roundw
      case rel =>
        refine ⟨k + 1, p + 5 + q, os ++ [p], by omega, by go_num, rfl, by omega, by omega, Lib.hid (fun y hy => ?_), by simpa using own3, u3, code3, grown_trans G2 g3⟩
        rcases List.mem_append.1 hy with hy | hy
        · exact hx.out y hy
        · obtain rfl : y = p := by simpa using hy
          exact i64_of (by omega) (by omega)
      case measure => simp [intOf]; omega
    · go_wp2_with fail
      refine (once_any B c a len cap 12 w1 hBc (by omega) k1 u1 (by decide) (by decide)).mono ?_
      rintro e w2 ⟨⟨o, rfl⟩, u2, g2⟩
      have k2 := k1.grown hBc (by omega) g2
      have own2 := own1.kept g2 (own_ne (own_base own1 (by omega)))
      have G2 := grown_trans G1 g2
      have s2 := G2.size
      clear u1 k1 own1 G1 g2
      cases o with
      | false =>
        go_wp2
        go_ret
        exact ⟨⟨_, k, os, rfl, by omega, hx.out, own2⟩, u2, G2⟩
      | true =>
        have CP := Lib.hid (pickNew B c 4 a len cap [0, -1, 9223372036854775807, 1000000500] w2 hBc (by omega) k2 u2 rfl (by decide) (by decide))
        go_wp2_with (first | (go_at_call 32; refine CP.out.mono ?_; rintro e w3 ⟨⟨x, hxm, rfl⟩, u3, g3⟩; have own3 := own2.kept g3 (own_ne (own_base own2 (by omega))); have s3 := Nat.le_trans s2 g3.size) | (at_builtin; refine list_app2 (by rfl) (.tmp 24) (.tmp 28) 49 (by rfl) w.heap.size w3 3 i0 (.int .i64 0) 8 Tryz.underlying49 hi hz0 hz1 hz2 (by rfl) _ k _ own3 ?_ [.int .i64 x] 1 ?_ ?_ ?_ ?_ (by rfl) (by rfl) (by rfl) ?_ ?_; exact s3; rfl; simp [Value.oneCell']; unfold maxLen; omega; omega; exact ⟨rfl, rfl, rfl⟩; intro v4 w4 own4 b4))
        go_ret
        refine ⟨⟨_, k + 1, os ++ [x], rfl, by omega, fun y hy => ?_, by simpa using own4⟩, u3.below (b4.mono (by omega)), grown_below (grown_trans G2 g3) b4⟩
        rcases List.mem_append.1 hy with hy | hy
        · exact hx.out y hy
        · obtain rfl : y = x := by simpa using hy
          simp only [List.mem_cons, List.not_mem_nil, or_false] at hxm
          rcases hxm with rfl | rfl | rfl | rfl <;> exact i64_of (by decide) (by decide)

end Go.Proofs.YtpibemlganeacaaGreatDoor.draw

namespace Go.Proofs.YtpibemlganeacaaGreatDoor.draw
set_option maxRecDepth 20000
open Go.RowKit
open kit hd sc pl

/-- a stride and offsets of the call's own -/
def PostPl (w : World) (e : Ending) (w' : World) : Prop := (∃ (s : Int) (v : Value) (n : Nat) (os : List Int), e = .returned (.tuple #[.int .i64 s, v]) ∧ i64 s ∧ n ≤ 9 ∧ (∀ o ∈ os, i64 o) ∧ w'.ownsRow w.heap.size 3 1 v n (os.map (Value.int .i64))) ∧ Below w.heap.size w w'
theorem one_more {T z : ByteArray} (hz : z.size = 1) (h : T.size ≤ 99999) : (T ++ z).size ≤ 100000 := by rw [ByteArray.size_append]; omega
/-- a text and where to read -/
def PostRp (w : World) (e : Ending) (w' : World) : Prop := (∃ (b : ByteArray) (q : Int), b.size ≤ 1000 ∧ e = .returned (.tuple #[.string b, .int .i64 q])) ∧ Below w.heap.size w w'
/-- a text that may end in a trailer -/
def PostTr (w : World) (e : Ending) (w' : World) : Prop := (∃ b : ByteArray, b.size ≤ 1000 ∧ e = .returned (.string b)) ∧ Below w.heap.size w w'
end Go.Proofs.YtpibemlganeacaaGreatDoor.draw
