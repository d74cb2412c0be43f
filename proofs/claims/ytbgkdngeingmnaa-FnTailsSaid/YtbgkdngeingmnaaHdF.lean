/-
  Contracts of the draws of lists of records.
-/
import Derived.Test.YtbgkdngeingmnaaDrawX
import Derived.Test.YtbgkdngeingmnaaStrsB
namespace Go.Proofs.Ytbgkdngeingmnaa.draw
set_option maxRecDepth 20000
open Go.RowKit
open kit

set_option maxHeartbeats 1000000 in
theorem record8_any (B c : Nat) (a : Option Addr) (len cap : Nat) (w : World) (hBc : B ≤ c) (hcw : c < w.heap.size) (hc : CodeAt w B a len) (hu : Cur w c a len cap) :
    Calls Try.prog 78 #[.pointer (some ⟨c, 0, none⟩)] w (PostS c a len cap 60 w) := by
  go_enter Try.func78, Try.ntmps78
  go_wp2_with fail
  refine (below_any B c a len cap 6 w hBc (by omega) hc hu (by omega) (by omega)).mono ?_
  rintro e w1 ⟨⟨x, l1, m1, rfl⟩, u1, g1⟩
  have k1 := hc.grown hBc (by omega) g1
  have s1 := g1.size
  clear hc hu
  rcases (show x = 0 ∨ x = 1 ∨ 1 < x by omega) with rfl | rfl | hgt
  · clear k1
    go_wp2
    go_ret
    exact ⟨⟨_, by show 0 ≤ 60; omega, rfl⟩, u1, g1⟩
  · go_wp2_with fail
    refine (below_any B c a len cap 41 w1 hBc (by omega) k1 u1 (by omega) (by omega)).mono ?_
    rintro e w2 ⟨⟨y, l2, m2, rfl⟩, u2, g2⟩
    have k2 := k1.grown hBc (by omega) g2
    have s2 := g2.size
    have G2 := Lib.hid (grown_trans g1 g2)
    obtain ⟨n, rfl⟩ := Int.eq_ofNat_of_zero_le l2
    clear k1 u1 g1 g2
    go_wp2_with fail
    rw [show (20 : Int) + (n : Int) = ((20 + n : Nat) : Int) by omega]
    refine (text_any B c a len cap (20 + n) w2 hBc (by omega) k2 u2 (by omega)).mono ?_
    rintro e w3 ⟨⟨s, hs, rfl⟩, u3, g3⟩
    clear k2 u2
    go_wp2
    go_ret
    exact ⟨⟨s, by omega, rfl⟩, u3, grown_trans G2.out g3⟩
  · have e0 : (x == 0) = false := by rw [beq_eq_false_iff_ne]; omega
    have e1 : (x == 1) = false := by rw [beq_eq_false_iff_ne]; omega
    go_wp2_with fail
    refine (below_any B c a len cap 12 w1 hBc (by omega) k1 u1 (by omega) (by omega)).mono ?_
    rintro e w2 ⟨⟨y, l2, m2, rfl⟩, u2, g2⟩
    have k2 := k1.grown hBc (by omega) g2
    have s2 := g2.size
    have G2 := Lib.hid (grown_trans g1 g2)
    obtain ⟨n, rfl⟩ := Int.eq_ofNat_of_zero_le l2
    clear k1 u1 g1 g2
    go_wp2_with fail
    refine (text_any B c a len cap n w2 hBc (by omega) k2 u2 (by omega)).mono ?_
    rintro e w3 ⟨⟨s, hs, rfl⟩, u3, g3⟩
    clear k2 u2
    go_wp2
    go_ret
    exact ⟨⟨s, by omega, rfl⟩, u3, grown_trans G2.out g3⟩

/-- a list of records of the call's own; only the cursor is written -/
def PostL (c : Nat) (a : Option Addr) (len cap most : Nat) (w : World) (e : Ending) (w' : World) : Prop :=
  (∃ (v : Value) (n : Nat) (xs : List ByteArray), e = .returned v ∧ n ≤ most ∧ (∀ x ∈ xs, x.size ≤ 60) ∧ w'.ownsRow w.heap.size 9 1 v n (xs.map Value.string)) ∧ Cur w' c a len cap ∧ w.grownBy w' (some c)

set_option maxHeartbeats 1000000 in
theorem records8_any (B c : Nat) (a : Option Addr) (len cap most : Nat) (w : World) (hBc : B ≤ c) (hcw : c < w.heap.size) (hc : CodeAt w B a len) (hu : Cur w c a len cap) (hmost : most ≤ 1000) :
    Calls Try.prog 62 #[.pointer (some ⟨c, 0, none⟩), .int .i64 (most : Int)] w (PostL c a len cap most w) := by
  obtain ⟨i0, hi, hz0, hz1, hz2⟩ := info_parts strs.Try.infoStr
  go_enter Try.func62, Try.ntmps62
  go_wp2
  go_loopw [5, 6] (fun v i wr => ∃ (k : Nat) (xs : List ByteArray), k ≤ most ∧ i = .int .i64 k ∧ Hid (∀ x ∈ xs, x.size ≤ 60) ∧ wr.ownsRow w.heap.size 9 1 v k (xs.map Value.string) ∧ Cur wr c a len cap ∧ CodeAt wr B a len ∧ w.grownBy wr (some c)) (fun _ i _ => most + 1 - (intOf i).toNat)
  case atStart => exact ⟨0, [], Nat.zero_le _, rfl, Lib.hid (fun x hx => by cases hx), World.ownsRow_made _ _ _ (Nat.le_refl _) (by decide) rfl, hu.below ((Below.refl _ _).alloc (by omega) _), hc.below ((Below.refl _ _).alloc (by omega) _), World.grownBy_alloc _ _ _⟩
  case round =>
    obtain ⟨k, xs, hk, rfl, hx, hown, hcur, hcode, hgr⟩ := hrel
    have hsz := hgr.size
    go_wp2_with fail
    refine (below_any B c a len cap ((most : Int) + 1) wr hBc (by omega) hcode hcur (by omega) (by omega)).mono ?_
    rintro e w1 ⟨⟨z, l1, m1, rfl⟩, u1, g1⟩
    have k1 := hcode.grown hBc (by omega) g1
    have own1 := hown.kept g1 (own_ne (own_base hown (by omega)))
    have G1 := grown_trans hgr g1
    have s1 := G1.size
    clear hown hcur hcode hgr g1
    by_cases hlt : (k : Int) < z
    · have hkm : k < most := by omega
      go_wp2_with (first | (go_at_call 78; refine (record8_any B c a len cap w1 hBc (by omega) k1 u1).mono ?_; rintro e w2 ⟨⟨x, hx60, rfl⟩, u2, g2⟩; have own2 := own1.kept g2 (own_ne (own_base own1 (by omega))); have sz2 := Nat.le_trans s1 g2.size; have code2 := k1.grown hBc (by omega) g2) | (at_builtin; refine list_app2 (by rfl) (.tmp 16) (.tmp 19) 27 (by rfl) w.heap.size w2 9 i0 (.string { data := #[] }) 16 Try.underlying27 hi hz0 hz1 hz2 (by rfl) _ k _ own2 ?_ [.string x] 1 ?_ ?_ ?_ ?_ (by rfl) (by rfl) (by rfl) ?_ ?_; exact sz2; rfl; simp [Value.oneCell']; unfold maxLen; omega; omega; exact ⟨rfl, rfl, rfl⟩; intro v' w' hown' hb'))
      go_roundw
      case rel =>
        refine ⟨k + 1, xs ++ [x], by omega, by go_num, Lib.hid (fun y hy => ?_), by simpa using hown', u2.below (hb'.mono (by omega)), code2.below (hb'.mono (by omega)), grown_below (grown_trans G1 g2) hb'⟩
        rcases List.mem_append.1 hy with hy | hy
        · exact hx.out y hy
        · obtain rfl : y = x := by simpa using hy
          exact hx60
      case measure => simp [intOf]; omega
    · go_wp2
      go_ret
      exact ⟨⟨_, k, xs, rfl, hk, hx.out, own1⟩, u1, G1⟩

/-- a list of records of the call's own; nothing that was there turns -/
def PostLi (most : Nat) (w : World) (e : Ending) (w' : World) : Prop :=
  (∃ (v : Value) (n : Nat) (xs : List ByteArray), e = .returned v ∧ n ≤ most ∧ (∀ x ∈ xs, x.size ≤ 60) ∧ w'.ownsRow w.heap.size 9 1 v n (xs.map Value.string)) ∧ Below w.heap.size w w'
end Go.Proofs.Ytbgkdngeingmnaa.draw
