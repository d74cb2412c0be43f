/-
  Contracts of the draws of texts: one out of some, one of drawn bytes.
-/
import Derived.Test.YthnpeecfianplaaDrawB
namespace Go.Proofs.Ythnpeecfianplaa.draw
open Go.RowKit
open kit

theorem grown_below {a b c : World} {row : Option Nat} (h : a.grownBy b row) (k : Below a.heap.size b c) : a.grownBy c row :=
  ⟨k.os.trans h.os, k.tape.trans h.tape, k.output.trans h.output, Nat.le_trans h.size k.size, fun i hi hr => (k.block i hi).trans (h.block i hi hr)⟩

/-- a text of at most so many bytes -/
def PostS (c : Nat) (a : Option Addr) (len cap most : Nat) (w : World) (e : Ending) (w' : World) : Prop :=
  (∃ s : ByteArray, s.size ≤ most ∧ e = .returned (.string s)) ∧ Cur w' c a len cap ∧ w.grownBy w' (some c)

theorem Try.infoU8 : (Try.prog.info? 5).map (fun i => (i.zero, i.size, i.bytes)) = some (some (.int .u8 0), 1, 1) := by kernel_rfl

set_option maxHeartbeats 400000 in
set_option maxRecDepth 100000 in
theorem text_any (B c : Nat) (a : Option Addr) (len cap n : Nat) (w : World) (hBc : B ≤ c) (hcw : c < w.heap.size) (hc : CodeAt w B a len) (hu : Cur w c a len cap) (hn : n ≤ 5000) :
    Calls Try.prog 29 #[.pointer (some ⟨c, 0, none⟩), .int .i64 n] w (PostS c a len cap n w) := by
  obtain ⟨i0, hi, hz0, hz1, hz2⟩ := info_parts Try.infoU8
  go_enter Try.func29, Try.ntmps29
  go_wp2
  go_loopw [5, 6] (fun v i wr => ∃ (k : Nat) (xs : List Int), k ≤ n ∧ i = .int .i64 k ∧ wr.ownsRow w.heap.size 5 1 v k (xs.map (Value.int .u8)) ∧ Cur wr c a len cap ∧ CodeAt wr B a len ∧ w.grownBy wr (some c)) (fun _ i _ => n - (intOf i).toNat)
  case atStart => exact ⟨0, [], Nat.zero_le _, rfl, World.ownsRow_made _ _ _ (Nat.le_refl _) (by decide) rfl, hu.below ((Below.refl _ _).alloc (by omega) _), hc.below ((Below.refl _ _).alloc (by omega) _), World.grownBy_alloc _ _ _⟩
  case round =>
    obtain ⟨k, xs, hk, rfl, hown, hcur, hcode, hgr⟩ := hrel
    have hsz := hgr.size
    by_cases hlt : k < n
    · have hl : xs.length = k := by have := hown.1; simpa using this
      have HL := Lib.hid hl
      clear hl
      go_wp2_with (first | (go_at_call 46; refine (byte_any B c a len cap wr hBc hcode hcur).mono ?_; rintro e w2 ⟨⟨x, x0, x1, rfl⟩, u2, g2⟩; have own2 := hown.kept g2 (own_ne (own_base hown (by omega))); have sz2 := Nat.le_trans hsz g2.size; have code2 := hcode.grown hBc (by omega) g2) | (at_builtin; refine list_app2 (by rfl) (.tmp 15) (.tmp 19) 22 (by rfl) w.heap.size w2 5 i0 (.int .u8 0) 1 Try.underlying22 hi hz0 hz1 hz2 (by rfl) _ k _ own2 ?_ [.int .u8 x] 1 ?_ ?_ ?_ ?_ (by rfl) (by rfl) (by rfl) ?_ ?_; exact sz2; rfl; simp [Value.oneCell']; unfold maxLen; omega; omega; exact ⟨rfl, rfl, rfl⟩; intro v' w' hown' hb'))
      go_roundw
      case rel => exact ⟨k + 1, xs ++ [x], by omega, by go_num, by simpa using hown', u2.below (hb'.mono (by omega)), code2.below (hb'.mono (by omega)), grown_below (grown_trans hgr g2) hb'⟩
      case measure => simp [intOf]; omega
    · obtain rfl : k = n := by omega
      have hcv := conv_own Try.underlying22 Try.underlying5 hown
      have hl : (strOfNums xs).size ≤ k := by rw [strOfNums_size]; have := hown.1; simp at this; omega
      have HL := Lib.hid hl
      clear hl hcode
      go_wp2
      go_ret
      exact ⟨⟨_, HL.out, rfl⟩, hcur, hgr⟩

end Go.Proofs.Ythnpeecfianplaa.draw
