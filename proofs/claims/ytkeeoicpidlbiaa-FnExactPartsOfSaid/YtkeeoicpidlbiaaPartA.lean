/-
  Plain facts on PartsOf, and the contract of spec.PartsOf.
-/
import Derived.Test.YtkeeoicpidlbiaaKit
namespace Go.Proofs.Ytkeeoicpidlbiaa.part
open Go.RowKit
open kit

/-- byte k of a line; behind its end a blank -/
def btE (s : ByteArray) (k : Nat) : Int := if h : k < s.size then (s[k].toNat : Int) else 32
theorem btE_in (s : ByteArray) (k : Nat) (h : k < s.size) : btE s k = (s[k].toNat : Int) := dif_pos h
theorem btE_end (s : ByteArray) (k : Nat) (h : ¬ k < s.size) : btE s k = 32 := dif_neg h

def pst (s : ByteArray) : Nat → List ByteArray × Nat
  | 0 => ([], 0)
  | k + 1 => if btE s k = 32 then ((if (pst s k).2 < k then (pst s k).1 ++ [s.extract (pst s k).2 k] else (pst s k).1), k + 1) else pst s k
theorem pst_blank {s : ByteArray} {k b : Nat} {ps : List ByteArray} (hp : pst s k = (ps, b)) (h : btE s k = 32) (hb : b < k) : pst s (k + 1) = (ps ++ [s.extract b k], k + 1) := by
  simp [pst, hp, h, hb]
theorem pst_blanks {s : ByteArray} {k b : Nat} {ps : List ByteArray} (hp : pst s k = (ps, b)) (h : btE s k = 32) (hb : ¬ b < k) : pst s (k + 1) = (ps, k + 1) := by
  simp [pst, hp, h, hb]
theorem pst_other {s : ByteArray} {k b : Nat} {ps : List ByteArray} (hp : pst s k = (ps, b)) (h : btE s k ≠ 32) : pst s (k + 1) = (ps, b) := by
  simp [pst, hp, h]
theorem pst_le (s : ByteArray) : ∀ k, (pst s k).2 ≤ k ∧ (pst s k).1.length ≤ k
  | 0 => ⟨Nat.le_refl _, Nat.le_refl _⟩
  | k + 1 => by
    have ih := pst_le s k
    unfold pst
    split
    · refine ⟨Nat.le_refl _, ?_⟩
      show (if _ then _ else _ : List ByteArray).length ≤ _
      split
      · simp; omega
      · omega
    · exact ⟨by omega, by omega⟩
theorem pst_bd {s : ByteArray} {k b : Nat} {ps : List ByteArray} (hp : pst s k = (ps, b)) : b ≤ k ∧ ps.length ≤ k := by
  have := pst_le s k
  rw [hp] at this
  exact this

def goodAt (s : ByteArray) (i : Nat) : Bool := decide (32 ≤ btE s i) && decide (btE s i ≤ 126)
def goodTo (s : ByteArray) (k : Nat) : Bool := (List.range k).all (goodAt s)
theorem goodTo_succ (s : ByteArray) (k : Nat) : goodTo s (k + 1) = (goodTo s k && goodAt s k) := by simp [goodTo, List.range_succ]
theorem goodTo_no (s : ByteArray) (k n : Nat) (hk : k < n) (h : goodAt s k = false) : goodTo s n = false := by
  unfold goodTo
  rw [List.all_eq_false]
  exact ⟨k, List.mem_range.2 hk, by simp [h]⟩

def partsF (s : ByteArray) : List ByteArray := (pst s (s.size + 1)).1
def okP (s : ByteArray) : Bool := decide (s.size ≤ 600) && goodTo s (s.size + 1) && decide ((partsF s).length ≤ 12)
def resP (s : ByteArray) : List ByteArray := if okP s = true then partsF s else []
theorem okP_bad (s : ByteArray) (k : Nat) (hk : k < s.size) (h : goodAt s k = false) : okP s = false := by
  unfold okP
  rw [goodTo_no s k _ (by omega) h]
  simp

/-- what both functions leave -/
def Post (s : ByteArray) (w : World) (e : Ending) (w' : World) : Prop :=
  ∃ v, e = .returned (.tuple #[v, .bool (okP s)]) ∧ w'.ownsRow w.heap.size 9 1 v (resP s).length ((resP s).map Value.string) ∧ Below w.heap.size w w'
theorem post_no {s : ByteArray} {w w' : World} {v : Value} (h : okP s = false) (hown : w'.ownsRow w.heap.size 9 1 v 0 []) (hb : Below w.heap.size w w') :
    Post s w (.returned (.tuple #[v, .bool false])) w' := by
  have hr : resP s = [] := by unfold resP; rw [h]; rfl
  refine ⟨v, by rw [h], ?_, hb⟩
  rw [hr]
  exact hown
theorem post_yes {s : ByteArray} {w w' : World} {v : Value} {b : Nat} {ps : List ByteArray} (hs : s.size ≤ 600) (hp : pst s (s.size + 1) = (ps, b)) (hg : goodTo s (s.size + 1) = true) (hl : ps.length ≤ 12)
    (hown : w'.ownsRow w.heap.size 9 1 v ps.length (ps.map Value.string)) (hb : Below w.heap.size w w') :
    Post s w (.returned (.tuple #[v, .bool true])) w' := by
  have hf : partsF s = ps := by unfold partsF; rw [hp]
  have ho : okP s = true := by unfold okP; rw [hg, hf]; simp [hs, hl]
  have hr : resP s = ps := by unfold resP; rw [ho, if_pos rfl, hf]
  refine ⟨v, by rw [ho], ?_, hb⟩
  rw [hr]
  exact hown
theorem okP_many {s : ByteArray} {b : Nat} {ps : List ByteArray} (hp : pst s (s.size + 1) = (ps, b)) (hl : 12 < ps.length) : okP s = false := by
  have hf : partsF s = ps := by unfold partsF; rw [hp]
  unfold okP
  rw [hf]
  simp
  omega
theorem okP_long {s : ByteArray} (h : 600 < s.size) : okP s = false := by
  unfold okP
  rw [decide_eq_false (by omega)]
  rfl

theorem Try.info9 : (Try.prog.info? 9).map (fun i => (i.zero, i.size, i.bytes)) = some (some (.string { data := #[] }), 1, 16) := by kernel_rfl

set_option maxHeartbeats 1000000 in
theorem specParts_any (s : ByteArray) (w : World) (hs : s.size ≤ 600) : Calls Try.prog 11 #[.string s] w (Post s w) := by
  obtain ⟨i0, hi, hz0, hz1, hz2⟩ := info_parts Try.info9
  go_enter Try.func11, Try.ntmps11
  go_wp2
  go_loopw [4, 5, 6] (fun v bg i wr => ∃ (k b : Nat) (ps : List ByteArray), k ≤ s.size + 1 ∧ i = .int .i64 k ∧ bg = .int .i64 b ∧ pst s k = (ps, b) ∧ wr.ownsRow w.heap.size 9 1 v ps.length (ps.map Value.string) ∧ goodTo s k = true ∧ Below w.heap.size w wr) (fun _ _ i _ => s.size + 1 - (intOf i).toNat)
  case atStart => exact ⟨0, 0, [], Nat.zero_le _, rfl, rfl, rfl, World.ownsRow_made _ _ _ (Nat.le_refl _) (by decide) rfl, rfl, (Below.refl _ _).alloc (Nat.le_refl _) _⟩
  case round =>
    obtain ⟨k, b, ps, hk, rfl, rfl, hp, hown, hg, hb⟩ := hrel
    obtain ⟨hb1, hb2⟩ := pst_bd hp
    have HP := Lib.hid hp
    have HG := Lib.hid hg
    clear hp hg
    by_cases hle : k ≤ s.size
    · by_cases hlt : k < s.size
      · have HE := Lib.hid (btE_in s k hlt)
        by_cases c1 : (s[k].toNat : Int) < 32
        · have hno := okP_bad s k hlt (by unfold goodAt; rw [HE.out]; simp; omega)
          have HN := Lib.hid hno
          clear hno
          go_wp2
          go_ret2
          exact post_no HN.out (World.ownsRow_made _ _ _ hb.size (by decide) rfl) (hb.alloc hb.size _)
        · by_cases c2 : 126 < (s[k].toNat : Int)
          · have hno := okP_bad s k hlt (by unfold goodAt; rw [HE.out]; simp; omega)
            have HN := Lib.hid hno
            clear hno
            go_wp2
            go_ret2
            exact post_no HN.out (World.ownsRow_made _ _ _ hb.size (by decide) rfl) (hb.alloc hb.size _)
          · have hga : goodTo s (k + 1) = true := by rw [goodTo_succ, HG.out]; unfold goodAt; rw [HE.out]; simp; omega
            have HGA := Lib.hid hga
            clear hga
            by_cases c3 : (s[k].toNat : Int) = 32
            · have hc : btE s k = 32 := by rw [HE.out]; exact c3
              have HC := Lib.hid hc
              clear hc
              have c3a : (s[k].toNat : Int) ≤ 32 := by omega
              clear c3
              by_cases c4 : b < k
              · go_wp2_with (at_builtin; refine list_app (by rfl) (.tmp 48) (.tmp 53) 25 (by rfl) w wr 9 i0 (.string { data := #[] }) 16 Try.underlying25 hi hz0 hz1 hz2 (by rfl) _ ps.length _ hown hb [.string _] 1 ?_ ?_ ?_ ?_ (by rfl) (by rfl) (by rfl) ?_ ?_; rfl; simp [Value.oneCell']; unfold maxLen; omega; omega; exact ⟨rfl, rfl, rfl⟩; intro v' w' hown' hb')
                go_roundw
                case rel => exact ⟨k + 1, k + 1, ps ++ [s.extract b k], by omega, by go_num, by go_num, pst_blank HP.out HC.out c4, by simpa using hown', HGA.out, hb'⟩
                case measure => simp [intOf]; omega
              · go_wp2
                go_roundw
                case rel => exact ⟨k + 1, k + 1, ps, by omega, by go_num, by go_num, pst_blanks HP.out HC.out c4, hown, HGA.out, hb⟩
                case measure => simp [intOf]; omega
            · have hc : btE s k ≠ 32 := by rw [HE.out]; exact c3
              have HC := Lib.hid hc
              clear hc
              have c3a : 32 < (s[k].toNat : Int) := by omega
              clear c3
              go_wp2
              go_roundw
              case rel => exact ⟨k + 1, b, ps, by omega, by go_num, rfl, pst_other HP.out HC.out, hown, HGA.out, hb⟩
              case measure => simp [intOf]; omega
      · have HC := Lib.hid (btE_end s k hlt)
        have hga : goodTo s (k + 1) = true := by rw [goodTo_succ, HG.out]; unfold goodAt; rw [HC.out]; rfl
        have HGA := Lib.hid hga
        clear hga
        by_cases c4 : b < k
        · go_wp2_with (at_builtin; refine list_app (by rfl) (.tmp 48) (.tmp 53) 25 (by rfl) w wr 9 i0 (.string { data := #[] }) 16 Try.underlying25 hi hz0 hz1 hz2 (by rfl) _ ps.length _ hown hb [.string _] 1 ?_ ?_ ?_ ?_ (by rfl) (by rfl) (by rfl) ?_ ?_; rfl; simp [Value.oneCell']; unfold maxLen; omega; omega; exact ⟨rfl, rfl, rfl⟩; intro v' w' hown' hb')
          go_roundw
          case rel => exact ⟨k + 1, k + 1, ps ++ [s.extract b k], by omega, by go_num, by go_num, pst_blank HP.out HC.out c4, by simpa using hown', HGA.out, hb'⟩
          case measure => simp [intOf]; omega
        · go_wp2
          go_roundw
          case rel => exact ⟨k + 1, k + 1, ps, by omega, by go_num, by go_num, pst_blanks HP.out HC.out c4, hown, HGA.out, hb⟩
          case measure => simp [intOf]; omega
    · obtain rfl : k = s.size + 1 := by omega
      have hown0 := hown
      obtain ⟨a, c, rfl, _, _, _⟩ := own_form hown
      clear hown
      by_cases c5 : 12 < ps.length
      · have HN := Lib.hid (okP_many HP.out c5)
        go_wp2
        go_ret2
        exact post_no HN.out (World.ownsRow_made _ _ _ hb.size (by decide) rfl) (hb.alloc hb.size _)
      · go_wp2
        go_ret2
        exact post_yes hs HP.out HG.out (by omega) hown0 hb

theorem specParts_long (s : ByteArray) (w : World) (hs : 600 < s.size) : Calls Try.prog 11 #[.string s] w (Post s w) := by
  go_enter Try.func11, Try.ntmps11
  go_wp2
  go_ret2
  exact post_no (okP_long hs) (World.ownsRow_made _ _ _ (Nat.le_refl _) (by decide) rfl) ((Below.refl _ _).alloc (Nat.le_refl _) _)

end Go.Proofs.Ytkeeoicpidlbiaa.part
