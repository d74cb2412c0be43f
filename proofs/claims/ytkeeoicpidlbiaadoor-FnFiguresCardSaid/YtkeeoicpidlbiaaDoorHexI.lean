/-
  The contract of impl.Hex.
-/
import Derived.Test.YtkeeoicpidlbiaaDoorKit
import Derived.Deep.RegionHeld3
namespace Go.Proofs.YtkeeoicpidlbiaaDoor.hex
open Go.RowKit
open kit

def fig (x : Int) : Int := if x < 10 then 48 + x else 97 + x - 10

theorem fig_bd (x : Int) (h0 : 0 ≤ x) (h1 : x ≤ 15) : 0 ≤ fig x ∧ fig x ≤ 255 := by unfold fig; split <;> omega

def hexI (l : List UInt8) : List Int := l.flatMap fun c => [fig (c.toNat / 16), fig (c.toNat % 16)]

theorem hexI_step (s : ByteArray) (k : Nat) (h : k < s.size) : hexI (s.data.toList.take (k + 1)) = hexI (s.data.toList.take k) ++ [fig (s[k].toNat / 16), fig (s[k].toNat % 16)] := by
  rw [List.take_succ_eq_append_getElem (show k < s.data.toList.length by simpa using h)]
  simp [hexI]
  exact ⟨rfl, rfl⟩

theorem Tryd.info5 : (Tryd.prog.info? 5).map (fun i => (i.zero, i.size, i.bytes)) = some (some (.int .u8 0), 1, 1) := by kernel_rfl

theorem and15' : ∀ c : Fin 256, bits BinOp.and IntKind.u8 (c.val : Int) 15 = (c.val : Int) % 16 := by decide +kernel
theorem and15 (c : Nat) (h : c < 256) : bits BinOp.and IntKind.u8 (c : Int) 15 = (c : Int) % 16 := and15' ⟨c, h⟩

def figs : ByteArray := { data := #[48, 49, 50, 51, 52, 53, 54, 55, 56, 57, 97, 98, 99, 100, 101, 102] }
theorem figs_at' : ∀ q : Fin 16, ((figs[q.val]'(by have := q.isLt; exact this)).toNat : Int) = fig q.val := by decide +kernel
theorem figs_at (q : Int) (h : q.toNat < figs.size) (h0 : 0 ≤ q) : ((figs[q.toNat]'h).toNat : Int) = fig q := by
  have := figs_at' ⟨q.toNat, h⟩
  simp only [Int.toNat_of_nonneg h0] at this
  exact this

set_option maxHeartbeats 400000 in
theorem implHex_any (s : ByteArray) (w : World) (hs : s.size ≤ 20000) :
    Calls Tryd.prog 9 #[.string s] w fun e w' => e = .returned (.tuple #[.string (strOfNums (hexI s.data.toList)), .bool true]) ∧ Below w.heap.size w w' := by
  obtain ⟨i0, hi, hz0, hz1, hz2⟩ := info_parts Tryd.info5
  go_enter Tryd.func9, Tryd.ntmps9
  go_wp2_with (refine wpList_make_own _ (by rfl) _ _ 22 (by rfl) w.heap.size 5 i0 (.int .u8 0) 1 Tryd.underlying22 hi hz0 hz1 .i64 .i64 _ (2 * s.size) (by rfl) (by rfl) ?_ ?_ ?_ ?_ ?_; (push_cast; rfl); (rw [hz2]; omega); (unfold maxLen; omega); exact Nat.le_refl _; intro w1 hown1 hg1)
  have hb1 : Below w.heap.size w w1 := (Below.refl _ _).grown hg1 (Nat.le_refl _) (fun k hk => by cases hk)
  go_loopw [4, 5, 15] (fun v _ i wr => ∃ k : Nat, k ≤ s.size ∧ i = .int .i64 k ∧ wr.ownsRow w.heap.size 5 1 v (2 * k) ((hexI (s.data.toList.take k)).map (Value.int .u8)) ∧ Below w.heap.size w wr) (fun _ _ i _ => s.size - (intOf i).toNat)
  case atStart => exact ⟨0, Nat.zero_le _, rfl, hown1, hb1⟩
  case round =>
    obtain ⟨k, hk, rfl, hown, hb⟩ := hrel
    by_cases hlt : k < s.size
    · have hc : s[k].toNat < 256 := s[k].toNat_lt
      have hbit := and15 _ hc
      have H1 := Lib.hid (figs_at ((s[k].toNat : Int) / 16) (by show _ < 16; omega) (by omega))
      have H2 := Lib.hid (figs_at ((s[k].toNat : Int) % 16) (by show _ < 16; omega) (by omega))
      go_wp2
      go_region_held3 (fun _ => True) (trivial) (first | (refine step_app (by rfl) (.tmp 18) (.tmp 29) 22 (by rfl) w wr 5 i0 (.int .u8 0) 1 Tryd.underlying22 hi hz0 hz1 hz2 (by rfl) _ (2 * k) _ hown hb [.int .u8 _, .int .u8 _] 2 ?_ ?_ ?_ ?_ (by rfl) (by rfl) (by rfl) ?_ ?_; rfl; simp [Value.oneCell']; unfold maxLen; omega; omega; exact ⟨rfl, rfl, rfl⟩; intro v' w' hown' hb'))
      all_goals
        have hown2 : w'.ownsRow w.heap.size 5 1 v' (2 * k + 2) ((hexI (s.data.toList.take k)).map (Value.int .u8) ++ [.int .u8 (fig (s[k].toNat / 16)), .int .u8 (fig (s[k].toNat % 16))]) := by
          rw [← H1.out, ← H2.out]
          exact hown'
        clear hown'
        go_wp2
        go_roundw
        case rel => exact ⟨k + 1, by omega, by go_num, by rw [hexI_step s k hlt]; simpa [Nat.mul_add] using hown2, hb'⟩
        case measure => simp [intOf]; omega
    · have hcv := conv_own Tryd.underlying22 Tryd.underlying5 hown
      have hfin : s.data.toList.take k = s.data.toList := List.take_of_length_le (by have : s.data.toList.length = s.size := rfl; omega)
      have HF := Lib.hid hfin
      clear hfin
      go_wp2
      go_ret2
      exact ⟨by rw [HF.out]; rfl, hb⟩

end Go.Proofs.YtkeeoicpidlbiaaDoor.hex
