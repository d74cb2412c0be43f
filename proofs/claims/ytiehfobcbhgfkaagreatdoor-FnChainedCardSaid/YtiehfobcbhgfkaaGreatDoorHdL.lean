/-
  Contracts of LinkMore and LinkOf, spec's and impl's.
-/
import Derived.Test.YtiehfobcbhgfkaaGreatDoorHdQ
import Derived.Test.YtiehfobcbhgfkaaGreatDoorStrQ
namespace Go.Proofs.YtiehfobcbhgfkaaGreatDoor.hd
set_option maxRecDepth 20000
open Go.RowKit
open kit sum num burst

set_option maxHeartbeats 1000000 in
theorem specLinkMore (s : Int) (r : ByteArray) (w : World) (hm : r.size ≤ 1048576) :
    Calls Tryz.prog 65 #[.int .i64 s, .string r] w fun e w' => e = .returned (.int .i64 ((lkM s r : Nat) : Int)) ∧ Below w.heap.size w w' := by
  have CF := Lib.hid (fun w => specFix_any (r.size : Int) 4 w)
  have nT := fxI_size (r.size : Int) 4
  obtain ⟨T, hT⟩ : ∃ T, fxI (r.size : Int) 4 = T := ⟨_, rfl⟩
  rw [hT] at CF nT
  have HE := Lib.hid (show lkM s r = more s (T ++ r) by unfold lkM; rw [hT]; rfl)
  have CM := Lib.hid (fun w => specMore_any s (T ++ r) w (by rw [ByteArray.size_append]; omega))
  clear hT
  go_enter Tryz.func65, Tryz.ntmps65
  go_wp2_with (fail)
  refine (CF.out _).mono ?_
  rintro e w1 ⟨rfl, hb1⟩
  go_wp2_with (fail)
  refine (CM.out _).mono ?_
  rintro e w' ⟨rfl, rfl⟩
  go_wp2
  go_ret
  exact ⟨by rw [HE.out]; rfl, hb1⟩

set_option maxHeartbeats 1000000 in
theorem implLinkMore (s : Int) (r : ByteArray) (w : World) (hm : r.size ≤ 1048576) :
    Calls Tryz.prog 130 #[.int .i64 s, .string r] w fun e w' => e = .returned (.int .i64 ((lkM s r : Nat) : Int)) ∧ Below w.heap.size w w' := by
  have CF := Lib.hid (fun w => implFix_any (r.size : Int) 4 w)
  have nT := fxI_size (r.size : Int) 4
  obtain ⟨T, hT⟩ : ∃ T, fxI (r.size : Int) 4 = T := ⟨_, rfl⟩
  rw [hT] at CF nT
  have HE := Lib.hid (show lkM s r = more s (T ++ r) by unfold lkM; rw [hT]; rfl)
  have CM := Lib.hid (fun w => implMore_any s (T ++ r) w (by rw [ByteArray.size_append]; omega))
  clear hT
  go_enter Tryz.func130, Tryz.ntmps130
  go_wp2_with (fail)
  refine (CF.out _).mono ?_
  rintro e w1 ⟨rfl, hb1⟩
  go_wp2_with (fail)
  refine (CM.out _).mono ?_
  rintro e w' ⟨rfl, rfl⟩
  go_wp2
  go_ret
  exact ⟨by rw [HE.out]; rfl, hb1⟩

set_option maxHeartbeats 1000000 in
theorem specLinkOf (a : Option Addr) (c n : Nat) (xs : List ByteArray) (w : World) (hn : n ≤ 1048576) (hx : ∀ x ∈ xs, x.size ≤ 1048576) (ha : strs.At w a n xs) :
    Calls Tryz.prog 26 #[.slice a n c] w fun e w' => e = .returned (.int .i64 ((lkL 0 xs : Nat) : Int)) ∧ Below w.heap.size w w' := by
  have HL := Lib.hid ha.1
  have HA := Lib.hid ha
  have HX := Lib.hid hx
  clear ha hx
  go_enter Tryz.func26, Tryz.ntmps26
  go_wp2
  go_loopw [3, 4] (fun z i wr => ∃ (k m : Nat), k ≤ n ∧ i = .int .i64 k ∧ z = .int .i64 m ∧ Hid (lkL 0 (xs.take k) = m) ∧ Below w.heap.size w wr) (fun _ i _ => n - (intOf i).toNat)
  case atStart => exact ⟨0, 0, Nat.zero_le _, rfl, rfl, Lib.hid rfl, Below.refl _ _⟩
  case round =>
    obtain ⟨k, m, hk, rfl, rfl, hz, hb⟩ := hrel
    by_cases hlt : k < n
    · obtain ⟨x, hxk⟩ : ∃ x, xs[k]? = some x := ⟨_, List.getElem?_eq_getElem (by rw [HL.out]; exact hlt)⟩
      obtain ⟨g, o, rfl, hg, hc⟩ := HA.out.2.resolve_left (by omega)
      have c1 : wr.cell? ⟨g, o + k, none⟩ = some (.string x) := (hb.cell (p := ⟨g, o + k, none⟩) hg).trans (hc k x hxk)
      have HS := Lib.hid (show lkL 0 (xs.take (k + 1)) = lkM (m : Int) x by rw [lkL_next hxk, hz.out])
      have CM := Lib.hid (specLinkMore (m : Int) x wr (HX.out x (List.mem_of_getElem? hxk)))
      have i0 : (0 : Int) ≤ (k : Int) := by omega
      have i1 : (k : Int) < (n : Int) := by omega
      have HB := Lib.hid hb
      clear hc hxk hz hb
      go_wp2_with (fail)
      refine CM.out.mono ?_
      rintro e w1 ⟨rfl, hb1⟩
      go_wp2
      go_roundw
      case rel => exact ⟨k + 1, _, by omega, by go_num, rfl, Lib.hid HS.out, HB.out.trans (hb1.mono HB.out.size)⟩
      case measure => simp [intOf]; omega
    · obtain rfl : k = n := by omega
      have HE := Lib.hid (show lkL 0 xs = m by have h := hz.out; rw [List.take_of_length_le (by rw [HL.out]; exact Nat.le_refl _)] at h; exact h)
      clear hz
      go_wp2
      go_ret
      exact ⟨by rw [HE.out]; rfl, hb⟩

end Go.Proofs.YtiehfobcbhgfkaaGreatDoor.hd
