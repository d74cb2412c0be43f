/-
  Contracts of spec.l01Figure and spec.Hex.
-/
import Derived.Test.YtkeeoicpidlbiaaKit
import Derived.WalkKit
import Derived.WalkSpells
import Derived.WalkLawsBesides
import Derived.Deep.RegionHeld3
import Derived.Deep.AppendLies
import Derived.Deep.QuietTactic
import Derived.BigQuiet
import Derived.Laws.BytesArg
import Derived.Lib.Hide
namespace Go.Proofs.Ytkeeoicpidlbiaa.hex
open Go.RowKit
open kit

def fig (x : Int) : Int := if x < 10 then 48 + x else 97 + x - 10

theorem fig_bd (x : Int) (h0 : 0 ≤ x) (h1 : x ≤ 15) : 0 ≤ fig x ∧ fig x ≤ 255 := by unfold fig; split <;> omega

theorem figure_any (x : Int) (w : World) (h0 : 0 ≤ x) (h1 : x ≤ 15) :
    Calls Try.prog 18 #[.int .i64 x] w fun e w' => e = .returned (.int .u8 (fig x)) ∧ w = w' := by
  by_cases hx : x < 10
  · have e : fig x = 48 + x := if_pos hx
    have E := Lib.hid e
    clear e
    go_enter Try.func18, Try.ntmps18
    go_wp2
    go_ret
    exact ⟨by rw [E.out]; rfl, rfl⟩
  · have e : fig x = 97 + x - 10 := if_neg hx
    have E := Lib.hid e
    clear e
    go_enter Try.func18, Try.ntmps18
    go_wp2
    go_ret
    exact ⟨by rw [E.out]; rfl, rfl⟩

theorem wrap_small (x : Int) (h0 : 0 ≤ x) (h1 : x < 1000000) : IntKind.i64.wrap x = x := IntWalk.i64_in _ (by omega)
theorem hi_eq (c : Nat) (h : c < 256) : IntKind.i64.wrap ((IntKind.i64.wrap (c : Int)).tdiv 16) = (c : Int) / 16 := by
  rw [wrap_small (c : Int) (by omega) (by omega), Int.tdiv_eq_ediv_of_nonneg (by omega), wrap_small _ (by omega) (by omega)]
theorem lo_eq (c : Nat) (h : c < 256) : (IntKind.i64.wrap (c : Int)).tmod 16 = (c : Int) % 16 := by
  rw [wrap_small (c : Int) (by omega) (by omega), Int.tmod_eq_emod_of_nonneg (by omega)]

def hexI (l : List UInt8) : List Int := l.flatMap fun c => [fig (c.toNat / 16), fig (c.toNat % 16)]

theorem hexI_step (s : ByteArray) (k : Nat) (h : k < s.size) : hexI (s.data.toList.take (k + 1)) = hexI (s.data.toList.take k) ++ [fig (s[k].toNat / 16), fig (s[k].toNat % 16)] := by
  rw [List.take_succ_eq_append_getElem (show k < s.data.toList.length by simpa using h)]
  simp [hexI]
  exact ⟨rfl, rfl⟩

theorem Try.info5 : (Try.prog.info? 5).map (fun i => (i.zero, i.size, i.bytes)) = some (some (.int .u8 0), 1, 1) := by kernel_rfl

set_option maxHeartbeats 400000 in
theorem specHex_any (s : ByteArray) (w : World) (hs : s.size ≤ 20000) :
    Calls Try.prog 7 #[.string s] w fun e w' => e = .returned (.tuple #[.string (strOfNums (hexI s.data.toList)), .bool true]) ∧ Below w.heap.size w w' := by
  obtain ⟨i0, hi, hz0, hz1, hz2⟩ := info_parts Try.info5
  go_enter Try.func7, Try.ntmps7
  go_wp2
  go_loopw [4, 5] (fun v i wr => ∃ k : Nat, k ≤ s.size ∧ i = .int .i64 k ∧ wr.ownsRow w.heap.size 5 1 v (2 * k) ((hexI (s.data.toList.take k)).map (Value.int .u8)) ∧ Below w.heap.size w wr) (fun _ i _ => s.size - (intOf i).toNat)
  case atStart => exact ⟨0, Nat.zero_le _, rfl, World.ownsRow_made _ _ _ (Nat.le_refl _) (by decide) rfl, (Below.refl _ _).alloc (Nat.le_refl _) _⟩
  case round =>
    obtain ⟨k, hk, rfl, hown, hb⟩ := hrel
    by_cases hlt : k < s.size
    · have hc : s[k].toNat < 256 := s[k].toNat_lt
      go_wp2
      go_region_held3 (fun _ => True) (trivial) (first | (refine step_app (by rfl) (.tmp 16) (.tmp 29) 32 (by rfl) w wr 5 i0 (.int .u8 0) 1 Try.underlying32 hi hz0 hz1 hz2 (by rfl) _ (2 * k) _ hown hb [.int .u8 (fig (s[k].toNat / 16)), .int .u8 (fig (s[k].toNat % 16))] 2 ?_ ?_ ?_ ?_ (by rfl) (by rfl) (by rfl) ?_ ?_; rfl; simp [Value.oneCell']; unfold maxLen; omega; omega; exact ⟨rfl, rfl, rfl⟩; intro v' w' hown' hb') | (go_at_call 18; (first | rw [hi_eq _ hc] | rw [lo_eq _ hc]); refine (figure_any _ _ (by omega) (by omega)).mono ?_; rintro e w' ⟨rfl, rfl⟩))
      all_goals
        go_wp2
        go_roundw
        case rel => exact ⟨k + 1, by omega, by go_num, by rw [hexI_step s k hlt]; simpa [Nat.mul_add] using hown', hb'⟩
        case measure => simp [intOf]; omega
    · have hcv := conv_own Try.underlying32 Try.underlying5 hown
      have hfin : s.data.toList.take k = s.data.toList := List.take_of_length_le (by have : s.data.toList.length = s.size := rfl; omega)
      have HF := Lib.hid hfin
      clear hfin
      go_wp2
      go_ret2
      exact ⟨by rw [HF.out]; rfl, hb⟩

end Go.Proofs.Ytkeeoicpidlbiaa.hex
