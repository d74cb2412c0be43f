/-
  DrawPlaces gives twelve numbers of 0 .. 9999.
-/
import Derived.Test.YtdppflfhjmigdaaDoorDrawX
namespace Go.Proofs.YtdppflfhjmigdaaDoor.draw
set_option maxRecDepth 20000
open Go.RowKit
open kit

/-- twelve numbers of 0 .. 9999 -/
def PostP (w : World) (e : Ending) (w' : World) : Prop :=
  ∃ (v : Value) (xs : List Int), e = .returned v ∧ (∀ x ∈ xs, 0 ≤ x ∧ x ≤ 9999) ∧ w'.ownsRow w.heap.size 3 1 v 12 (xs.map (Value.int .i64)) ∧ Below w.heap.size w w'

theorem Tryd.info3 : (Tryd.prog.info? 3).map (fun i => (i.zero, i.size, i.bytes)) = some (some (.int .i64 0), 1, 8) := by kernel_rfl

set_option maxHeartbeats 400000 in
theorem places_any (a : Option Addr) (len cap : Nat) (w : World) (hc : CodeAt w w.heap.size a len) :
    Calls Tryd.prog 22 #[.slice a len cap] w (PostP w) := by
  obtain ⟨i0, hi, hz0, hz1, hz2⟩ := info_parts Tryd.info3
  go_enter Tryd.func22, Tryd.ntmps22
  go_wp2_with fail
  refine (new_any w.heap.size a len cap w (Nat.le_refl _) hc).mono ?_
  rintro e w1 ⟨rfl, u1, b1, sz1⟩
  have code1 := hc.below b1
  have SZ := Lib.hid sz1
  clear sz1 hc
  go_wp2_with fail
  have hs1 : w.heap.size < w1.heap.size := by have := SZ.out; omega
  go_loopw [4, 5] (fun v i wr => ∃ (k : Nat) (xs : List Int), k ≤ 12 ∧ i = .int .i64 k ∧ (∀ x ∈ xs, 0 ≤ x ∧ x ≤ 9999) ∧ wr.ownsRow (w.heap.size + 1) 3 1 v k (xs.map (Value.int .i64)) ∧ Cur wr w.heap.size a len cap ∧ CodeAt wr w.heap.size a len ∧ Below w.heap.size w wr ∧ w.heap.size + 1 ≤ wr.heap.size) (fun _ i _ => 12 - (intOf i).toNat)
  case atStart => exact ⟨0, [], by omega, rfl, (fun x hx => by cases hx), World.ownsRow_made _ _ _ (by omega) (by decide) rfl, u1.below ((Below.refl _ _).alloc (by omega) _), code1.below ((Below.refl _ _).alloc (by omega) _), b1.alloc (by omega) _, by simp; omega⟩
  case round =>
    obtain ⟨k, xs, hk, rfl, hr, hown, hcur, hcode, hb, hsz⟩ := hrel
    have HR := Lib.hid hr
    clear hr
    by_cases hlt : k < 12
    · go_wp2_with (first | (go_at_call 45; refine (below_many w.heap.size w.heap.size a len cap 10000 wr (Nat.le_refl _) (by omega) hcode hcur (by omega) (by omega)).mono ?_; rintro e w2 ⟨⟨x, x0, x1, rfl⟩, u2, g2⟩; have own2 := hown.kept g2 (own_ne hown); have bb2 := hb.grown g2 (by omega) (fun k hk => by injection hk with hk; omega); have sz2 := Nat.le_trans hsz g2.size; have code2 := hcode.grown (Nat.le_refl _) (by omega) g2) | (at_builtin; refine list_app2 (by rfl) (.tmp 13) (.tmp 16) 39 (by rfl) (w.heap.size + 1) w2 3 i0 (.int .i64 0) 8 Tryd.underlying39 hi hz0 hz1 hz2 (by rfl) _ k _ own2 ?_ [.int .i64 x] 1 ?_ ?_ ?_ ?_ (by rfl) (by rfl) (by rfl) ?_ ?_; exact sz2; rfl; simp [Value.oneCell']; unfold maxLen; omega; omega; exact ⟨rfl, rfl, rfl⟩; intro v' w' hown' hb'))
      go_roundw
      case rel =>
        refine ⟨k + 1, xs ++ [x], by omega, by go_num, fun y hy => ?_, by simpa using hown', u2.below hb', code2.below (hb'.mono (by omega)), bb2.trans (hb'.mono (by omega)), Nat.le_trans sz2 hb'.size⟩
        rcases List.mem_append.1 hy with hy | hy
        · exact HR.out y hy
        · obtain rfl : y = x := by simpa using hy
          exact ⟨x0, by omega⟩
      case measure => simp [intOf]; omega
    · obtain rfl : k = 12 := by omega
      go_wp2
      go_ret
      exact ⟨_, xs, rfl, HR.out, own_base hown (by omega), hb⟩

end Go.Proofs.YtdppflfhjmigdaaDoor.draw
