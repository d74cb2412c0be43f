/-
  Contracts of spec's heads: HeadOk, HeadText.
-/
import Derived.Test.YtideejpopneplaaMathX
import Derived.Test.YtideejpopneplaaNumX
import Derived.Test.YtideejpopneplaaSumX
import Derived.Test.YtideejpopneplaaLater
namespace Go.Proofs.Ytideejpopneplaa.hd
set_option maxRecDepth 20000
open Go.RowKit
open kit sum num burst

/-- the four cells of a box -/
def Four (w : World) (g : Nat) (a b c d : Value) : Prop := g < w.heap.size ∧ w.cell? ⟨g, 0, none⟩ = some a ∧ w.cell? ⟨g, 1, none⟩ = some b ∧ w.cell? ⟨g, 2, none⟩ = some c ∧ w.cell? ⟨g, 3, none⟩ = some d
theorem Four.new (w : World) (a b c d : Value) (t : TypeId) : Four (w.alloc (.cells #[a, b, c, d] t)) w.heap.size a b c d :=
  ⟨by simp, by simp, by simp, by simp, by simp⟩
theorem Four.below {w w' : World} {g : Nat} {a b c d : Value} (h : Four w g a b c d) (hb : Below w.heap.size w w') : Four w' g a b c d :=
  ⟨Nat.lt_of_lt_of_le h.1 hb.size, (hb.cell (p := ⟨g, 0, none⟩) h.1).trans h.2.1, (hb.cell (p := ⟨g, 1, none⟩) h.1).trans h.2.2.1, (hb.cell (p := ⟨g, 2, none⟩) h.1).trans h.2.2.2.1, (hb.cell (p := ⟨g, 3, none⟩) h.1).trans h.2.2.2.2⟩
theorem more_moreI (s : Int) (t : ByteArray) : more s t = moreI s t := rfl
theorem more_zero (t : ByteArray) : more 0 t = sumT t := by
  unfold more sumT sumMore
  rw [show low 0 = 0 from rfl, Nat.zero_xor]

set_option maxHeartbeats 1000000 in
theorem specHeadOk (v s b l : Int) (w : World) :
    Calls Try.prog 62 #[.agg #[.int .i64 v, .int .i64 s, .int .i64 b, .int .i64 l]] w fun e w' => e = .returned (.bool (okH ⟨v, s, b, l⟩)) ∧ Below w.heap.size w w' := by
  have hb : Below w.heap.size w (w.alloc (.cells #[.int .i64 v, .int .i64 s, .int .i64 b, .int .i64 l] 42)) := (Below.refl _ _).alloc (Nat.le_refl _) _
  obtain ⟨_, x0, x1, x2, x3⟩ := Four.new w (.int .i64 v) (.int .i64 s) (.int .i64 b) (.int .i64 l) 42
  by_cases h1 : 1 ≤ v ∧ v ≤ 2
  · by_cases h2 : 1 ≤ s ∧ s ≤ 20
    · by_cases h3 : 0 ≤ b ∧ b ≤ 1000000000
      · by_cases h4 : 0 ≤ l ∧ l ≤ 4294967295
        · have HE := Lib.hid (okH_is.2 (by simp only; omega) : okH ⟨v, s, b, l⟩ = true)
          have C1 := Lib.hid (fun w => in_yes v 1 2 w h1.1 h1.2)
          have C2 := Lib.hid (fun w => in_yes s 1 20 w h2.1 h2.2)
          have C3 := Lib.hid (fun w => in_yes b 0 1000000000 w h3.1 h3.2)
          have C4 := Lib.hid (fun w => in_yes l 0 4294967295 w h4.1 h4.2)
          clear h1 h2 h3 h4
          go_enter Try.func62, Try.ntmps62
          go_wp2_with (fail)
          refine (C1.out _).mono ?_
          rintro e w' ⟨rfl, rfl⟩
          go_wp2_with (fail)
          refine (C2.out _).mono ?_
          rintro e w' ⟨rfl, rfl⟩
          go_wp2_with (fail)
          refine (C3.out _).mono ?_
          rintro e w' ⟨rfl, rfl⟩
          go_wp2_with (fail)
          refine (C4.out _).mono ?_
          rintro e w' ⟨rfl, rfl⟩
          go_wp2
          go_ret
          exact ⟨by rw [HE.out]; rfl, hb⟩
        · have HE := Lib.hid (okH_no.2 (by simp only; omega) : okH ⟨v, s, b, l⟩ = false)
          have C1 := Lib.hid (fun w => in_yes v 1 2 w h1.1 h1.2)
          have C2 := Lib.hid (fun w => in_yes s 1 20 w h2.1 h2.2)
          have C3 := Lib.hid (fun w => in_yes b 0 1000000000 w h3.1 h3.2)
          have C4 := Lib.hid (fun w => in_no l 0 4294967295 w (by omega))
          clear h1 h2 h3 h4
          go_enter Try.func62, Try.ntmps62
          go_wp2_with (fail)
          refine (C1.out _).mono ?_
          rintro e w' ⟨rfl, rfl⟩
          go_wp2_with (fail)
          refine (C2.out _).mono ?_
          rintro e w' ⟨rfl, rfl⟩
          go_wp2_with (fail)
          refine (C3.out _).mono ?_
          rintro e w' ⟨rfl, rfl⟩
          go_wp2_with (fail)
          refine (C4.out _).mono ?_
          rintro e w' ⟨rfl, rfl⟩
          go_wp2
          go_ret
          exact ⟨by rw [HE.out]; rfl, hb⟩
      · have HE := Lib.hid (okH_no.2 (by simp only; omega) : okH ⟨v, s, b, l⟩ = false)
        have C1 := Lib.hid (fun w => in_yes v 1 2 w h1.1 h1.2)
        have C2 := Lib.hid (fun w => in_yes s 1 20 w h2.1 h2.2)
        have C3 := Lib.hid (fun w => in_no b 0 1000000000 w (by omega))
        clear h1 h2 h3
        go_enter Try.func62, Try.ntmps62
        go_wp2_with (fail)
        refine (C1.out _).mono ?_
        rintro e w' ⟨rfl, rfl⟩
        go_wp2_with (fail)
        refine (C2.out _).mono ?_
        rintro e w' ⟨rfl, rfl⟩
        go_wp2_with (fail)
        refine (C3.out _).mono ?_
        rintro e w' ⟨rfl, rfl⟩
        go_wp2
        go_ret
        exact ⟨by rw [HE.out]; rfl, hb⟩
    · have HE := Lib.hid (okH_no.2 (by simp only; omega) : okH ⟨v, s, b, l⟩ = false)
      have C1 := Lib.hid (fun w => in_yes v 1 2 w h1.1 h1.2)
      have C2 := Lib.hid (fun w => in_no s 1 20 w (by omega))
      clear h1 h2
      go_enter Try.func62, Try.ntmps62
      go_wp2_with (fail)
      refine (C1.out _).mono ?_
      rintro e w' ⟨rfl, rfl⟩
      go_wp2_with (fail)
      refine (C2.out _).mono ?_
      rintro e w' ⟨rfl, rfl⟩
      go_wp2
      go_ret
      exact ⟨by rw [HE.out]; rfl, hb⟩
  · have HE := Lib.hid (okH_no.2 (by simp only; omega) : okH ⟨v, s, b, l⟩ = false)
    have C1 := Lib.hid (fun w => in_no v 1 2 w (by omega))
    clear h1
    go_enter Try.func62, Try.ntmps62
    go_wp2_with (fail)
    refine (C1.out _).mono ?_
    rintro e w' ⟨rfl, rfl⟩
    go_wp2
    go_ret
    exact ⟨by rw [HE.out]; rfl, hb⟩

theorem specFixL (n k : Int) (w : World) : Calls Try.prog 67 #[.int .i64 n, .int .i64 k] w fun e w' => e = .returned (.string (fxI n k)) ∧ Below w.heap.size w w' := specFix_any n k w

end Go.Proofs.Ytideejpopneplaa.hd
