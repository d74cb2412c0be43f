/-
  Contract of the laws' comparison of places.
-/
import Derived.Test.YtpibemlganeacaaGreatDoorPlP
import Derived.Test.YtpibemlganeacaaGreatDoorPlL
import Derived.Test.YtpibemlganeacaaGreatDoorBig
namespace Go.Proofs.YtpibemlganeacaaGreatDoor.pl
set_option maxRecDepth 20000
open Go.RowKit
open kit sum num burst hd fr recs

set_option maxHeartbeats 1000000 in
theorem samePlaces_any (a b : Option Addr) (c d n : Nat) (xs : List Plc) (w : World) (hm : n ≤ 1048576) (ha : AtP w a n xs) (hb : AtP w b n xs) :
    Calls Tryz.prog 14 #[.slice a n c, .slice b n d] w fun e w' => e = .returned (.bool true) ∧ Below w.heap.size w w' := by
  have HA := Lib.hid ha
  have HB := Lib.hid hb
  clear ha hb
  go_enter Tryz.func14, Tryz.ntmps14
  go_wp2
  go_loopw [5] (fun i wr => ∃ k : Nat, k ≤ n ∧ i = .int .i64 k ∧ Below w.heap.size w wr) (fun i _ => n - (intOf i).toNat)
  case atStart => exact ⟨0, Nat.zero_le _, rfl, Below.refl _ _⟩
  case round =>
    obtain ⟨k, hk, rfl, hb⟩ := hrel
    by_cases hlt : k < n
    · obtain ⟨x0, x1, g, o, hx, rfl, hg, c0, c1⟩ := (HA.out.below hb).get hlt
      obtain ⟨y0, y1, h, p, hy, rfl, hh, d0, d1⟩ := (HB.out.below hb).get hlt
      rw [hx] at hy
      simp only [Option.some.injEq, Prod.mk.injEq] at hy
      obtain ⟨rfl, rfl⟩ := hy
      clear hx HA HB
      have i0 : (0 : Int) ≤ (k : Int) := by omega
      have i1 : (k : Int) < (n : Int) := by omega
      go_wp2
      go_quiet (fail)
      go_wp2
      go_roundw
      case rel => exact ⟨k + 1, by omega, by go_num, below_drewN hb _⟩
      case measure => simp [intOf]; omega
    · go_wp2
      go_ret
      exact ⟨rfl, hb⟩

end Go.Proofs.YtpibemlganeacaaGreatDoor.pl
