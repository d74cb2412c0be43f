/-
  The contract of impl.PartsOf.
-/
import Derived.Test.YtkeeoicpidlbiaaPartA
namespace Go.Proofs.Ytkeeoicpidlbiaa.part
open Go.RowKit
open kit

def addP (xs : List ByteArray) (p : ByteArray) : List ByteArray := if p.size = 0 then xs else xs ++ [p]
def PostA (W0 : World) (l : List ByteArray) (e : Ending) (w' : World) : Prop := ∃ v, e = .returned v ∧ w'.ownsRow W0.heap.size 9 1 v l.length (l.map Value.string) ∧ Below W0.heap.size W0 w'

theorem appendPart_any (W0 wr : World) (v : Value) (xs : List ByteArray) (p : ByteArray) (hl : xs.length ≤ 10000) (hown : wr.ownsRow W0.heap.size 9 1 v xs.length (xs.map Value.string)) (hb : Below W0.heap.size W0 wr) :
    Calls Try.prog 21 #[v, .string p] wr (PostA W0 (addP xs p)) := by
  obtain ⟨i0, hi, hz0, hz1, hz2⟩ := info_parts Try.info9
  by_cases h : p.size = 0
  · have hp := Lib.hid (show addP xs p = xs from if_pos h)
    have e1 : p.toList.isEmpty = true := by
      rw [ByteArray.toList_eq, List.isEmpty_iff]
      exact List.length_eq_zero_iff.1 h
    clear h
    go_enter Try.func21, Try.ntmps21
    go_wp2
    go_ret
    rw [hp.out]
    exact ⟨_, rfl, hown, hb⟩
  · have hp := Lib.hid (show addP xs p = xs ++ [p] from if_neg h)
    have e1 : p.toList.isEmpty = false := by
      rw [ByteArray.toList_eq]
      cases hd : p.data.toList with
      | nil => exact absurd (congrArg List.length hd) h
      | cons x r => rfl
    clear h
    go_enter Try.func21, Try.ntmps21
    go_wp2_with (at_builtin; refine list_app (by rfl) (.tmp 8) (.tmp 10) 25 (by rfl) W0 wr 9 i0 (.string { data := #[] }) 16 Try.underlying25 hi hz0 hz1 hz2 (by rfl) _ xs.length _ hown hb [.string _] 1 ?_ ?_ ?_ ?_ (by rfl) (by rfl) (by rfl) ?_ ?_; rfl; simp [Value.oneCell']; unfold maxLen; omega; omega; exact ⟨rfl, rfl, rfl⟩; intro v' w' hown' hb')
    go_ret
    rw [hp.out]
    exact ⟨_, rfl, by simpa using hown', hb'⟩

theorem pst_add {s : ByteArray} {k b : Nat} {ps : List ByteArray} (hp : pst s k = (ps, b)) (h : btE s k = 32) (hk : k ≤ s.size) (hb : b ≤ k) : pst s (k + 1) = (addP ps (s.extract b k), k + 1) := by
  have hz : (s.extract b k).size = k - b := by rw [ByteArray.size_extract]; omega
  by_cases c : b < k
  · rw [pst_blank hp h c]
    unfold addP
    rw [if_neg (by omega)]
  · rw [pst_blanks hp h c]
    unfold addP
    rw [if_pos (by omega)]

set_option maxHeartbeats 1000000 in
theorem implParts_any (s : ByteArray) (w : World) (hs : s.size ≤ 600) : Calls Try.prog 12 #[.string s] w (Post s w) := by
  go_enter Try.func12, Try.ntmps12
  go_wp2
  go_step3
  go_wp2
  go_step3
  go_wp2
  go_loopw [4, 5, 6] (fun v bg i wr => ∃ (k b : Nat) (ps : List ByteArray), k ≤ s.size ∧ i = .int .i64 k ∧ bg = .int .i64 b ∧ pst s k = (ps, b) ∧ wr.ownsRow w.heap.size 9 1 v ps.length (ps.map Value.string) ∧ goodTo s k = true ∧ Below w.heap.size w wr) (fun _ _ i _ => s.size + 1 - (intOf i).toNat)
  case atStart => exact ⟨0, 0, [], Nat.zero_le _, rfl, rfl, rfl, World.ownsRow_nil _ _ _ _, rfl, Below.refl _ _⟩
  case round =>
    obtain ⟨k, b, ps, hk, rfl, rfl, hp, hown, hg, hb⟩ := hrel
    obtain ⟨hb1, hb2⟩ := pst_bd hp
    have HP := Lib.hid hp
    have HG := Lib.hid hg
    clear hp hg
    by_cases hlt : k < s.size
    · have HE := Lib.hid (btE_in s k hlt)
      by_cases c1 : (s[k].toNat : Int) < 32
      · have hno := okP_bad s k hlt (by unfold goodAt; rw [HE.out]; simp; omega)
        have HN := Lib.hid hno
        clear hno
        go_wp2
        rw [Exit.noGoto_ret]
        go_ret2
        exact post_no HN.out (World.ownsRow_nil _ _ _ _) hb
      · by_cases c2 : 126 < (s[k].toNat : Int)
        · have hno := okP_bad s k hlt (by unfold goodAt; rw [HE.out]; simp; omega)
          have HN := Lib.hid hno
          clear hno
          go_wp2
          (try rw [Exit.noGoto_ret])
          go_ret2
          exact post_no HN.out (World.ownsRow_nil _ _ _ _) hb
        · have hga : goodTo s (k + 1) = true := by rw [goodTo_succ, HG.out]; unfold goodAt; rw [HE.out]; simp; omega
          have HGA := Lib.hid hga
          clear hga
          by_cases c3 : (s[k].toNat : Int) = 32
          · have hc : btE s k = 32 := by rw [HE.out]; exact c3
            have HA := Lib.hid (pst_add HP.out hc (by omega) hb1)
            have hla := (pst_bd HA.out).2
            clear hc
            have c3a : (s[k].toNat : Int) ≤ 32 := by omega
            clear c3
            go_wp2_with (go_at_call 21; refine (appendPart_any w wr _ ps (s.extract b k) (by omega) hown hb).mono ?_; rintro e w' ⟨v', rfl, hown', hb'⟩)
            go_roundw
            case rel => exact ⟨k + 1, k + 1, _, by omega, by go_num, by go_num, HA.out, hown', HGA.out, hb'⟩
            case measure => simp [intOf]; omega
          · have hc : btE s k ≠ 32 := by rw [HE.out]; exact c3
            have HC := Lib.hid hc
            clear hc
            have c3a : 32 < (s[k].toNat : Int) := by omega
            clear c3
            go_wp2
            go_roundw
            case rel => exact ⟨k + 1, b, ps, by omega, by go_num, rfl, pst_other HP.out HC.out, hown, HGA.out, hb⟩
            case measure => simp [intOf]; omega
    · obtain rfl : k = s.size := by omega
      have HC := Lib.hid (btE_end s s.size hlt)
      have hga : goodTo s (s.size + 1) = true := by rw [goodTo_succ, HG.out]; unfold goodAt; rw [HC.out]; rfl
      have HGA := Lib.hid hga
      clear hga
      have HA := Lib.hid (pst_add HP.out HC.out (Nat.le_refl _) hb1)
      have hla := (pst_bd HA.out).2
      by_cases c5 : 12 < (addP ps (s.extract b s.size)).length
      · have HN := Lib.hid (okP_many HA.out c5)
        go_wp2_with (go_at_call 21; refine (appendPart_any w wr _ ps (s.extract b s.size) (by omega) hown hb).mono ?_; rintro e w' ⟨v', rfl, hown', hb'⟩; obtain ⟨a', c', rfl, _, _, _⟩ := own_form hown')
        (try rw [Exit.noGoto_ret])
        go_ret2
        exact post_no HN.out (World.ownsRow_nil _ _ _ _) hb'
      · go_wp2_with (go_at_call 21; refine (appendPart_any w wr _ ps (s.extract b s.size) (by omega) hown hb).mono ?_; rintro e w' ⟨v', rfl, hown', hb'⟩; have hown0 := hown'; obtain ⟨a', c', rfl, _, _, _⟩ := own_form hown'; clear hown')
        (try rw [Exit.noGoto_ret])
        go_ret2
        exact post_yes hs HA.out HGA.out (by omega) hown0 hb'

theorem implParts_long (s : ByteArray) (w : World) (hs : 600 < s.size) : Calls Try.prog 12 #[.string s] w (Post s w) := by
  go_enter Try.func12, Try.ntmps12
  go_wp2
  go_step3
  go_wp2
  go_ret2
  exact post_no (okP_long hs) (World.ownsRow_nil _ _ _ _) (Below.refl _ _)

end Go.Proofs.Ytkeeoicpidlbiaa.part
