/-
  Contracts of the draws of lists of records.
-/
import Derived.Test.YthnpeecfianplaaDrawT
import Derived.Test.YthnpeecfianplaaDrawS
import Derived.Test.YthnpeecfianplaaStrsB
namespace Go.Proofs.Ythnpeecfianplaa.draw
open Go.RowKit
open kit

set_option maxHeartbeats 1000000 in
theorem record8_any (B c : Nat) (a : Option Addr) (len cap : Nat) (w : World) (hBc : B ≤ c) (hcw : c < w.heap.size) (hc : CodeAt w B a len) (hu : Cur w c a len cap) :
    Calls Try.prog 31 #[.pointer (some ⟨c, 0, none⟩)] w (PostS c a len cap 60 w) := by
  go_enter Try.func31, Try.ntmps31
  go_wp2_with fail
  refine (below_any B c a len cap 6 w hBc (by omega) hc hu (by omega) (by omega)).mono ?_
  rintro e w1 ⟨⟨x, l1, m1, rfl⟩, u1, g1⟩
  have k1 := hc.grown hBc (by omega) g1
  have s1 := g1.size
  clear hc hu
  rcases (show x = 0 ∨ x = 1 ∨ 1 < x by omega) with rfl | rfl | hgt
  · clear k1
    go_wp2
    go_ret
    exact ⟨⟨_, by show 0 ≤ 60; omega, rfl⟩, u1, g1⟩
  · go_wp2_with fail
    refine (below_any B c a len cap 41 w1 hBc (by omega) k1 u1 (by omega) (by omega)).mono ?_
    rintro e w2 ⟨⟨y, l2, m2, rfl⟩, u2, g2⟩
    have k2 := k1.grown hBc (by omega) g2
    have s2 := g2.size
    have G2 := Lib.hid (grown_trans g1 g2)
    obtain ⟨n, rfl⟩ := Int.eq_ofNat_of_zero_le l2
    clear k1 u1 g1 g2
    go_wp2_with fail
    rw [show (20 : Int) + (n : Int) = ((20 + n : Nat) : Int) by omega]
    refine (text_any B c a len cap (20 + n) w2 hBc (by omega) k2 u2 (by omega)).mono ?_
    rintro e w3 ⟨⟨s, hs, rfl⟩, u3, g3⟩
    clear k2 u2
    go_wp2
    go_ret
    exact ⟨⟨s, by omega, rfl⟩, u3, grown_trans G2.out g3⟩
  · have e0 : (x == 0) = false := by rw [beq_eq_false_iff_ne]; omega
    have e1 : (x == 1) = false := by rw [beq_eq_false_iff_ne]; omega
    go_wp2_with fail
    refine (below_any B c a len cap 12 w1 hBc (by omega) k1 u1 (by omega) (by omega)).mono ?_
    rintro e w2 ⟨⟨y, l2, m2, rfl⟩, u2, g2⟩
    have k2 := k1.grown hBc (by omega) g2
    have s2 := g2.size
    have G2 := Lib.hid (grown_trans g1 g2)
    obtain ⟨n, rfl⟩ := Int.eq_ofNat_of_zero_le l2
    clear k1 u1 g1 g2
    go_wp2_with fail
    refine (text_any B c a len cap n w2 hBc (by omega) k2 u2 (by omega)).mono ?_
    rintro e w3 ⟨⟨s, hs, rfl⟩, u3, g3⟩
    clear k2 u2
    go_wp2
    go_ret
    exact ⟨⟨s, by omega, rfl⟩, u3, grown_trans G2.out g3⟩

/-- a list of records of the call's own; only the cursor is written -/
def PostL (c : Nat) (a : Option Addr) (len cap most : Nat) (w : World) (e : Ending) (w' : World) : Prop :=
  (∃ (v : Value) (n : Nat) (xs : List ByteArray), e = .returned v ∧ n ≤ most ∧ (∀ x ∈ xs, x.size ≤ 60) ∧ w'.ownsRow w.heap.size 9 1 v n (xs.map Value.string)) ∧ Cur w' c a len cap ∧ w.grownBy w' (some c)

/-- a list of records of the call's own; nothing that was there turns -/
def PostLi (most : Nat) (w : World) (e : Ending) (w' : World) : Prop :=
  (∃ (v : Value) (n : Nat) (xs : List ByteArray), e = .returned v ∧ n ≤ most ∧ (∀ x ∈ xs, x.size ≤ 60) ∧ w'.ownsRow w.heap.size 9 1 v n (xs.map Value.string)) ∧ Below w.heap.size w w'
end Go.Proofs.Ythnpeecfianplaa.draw
