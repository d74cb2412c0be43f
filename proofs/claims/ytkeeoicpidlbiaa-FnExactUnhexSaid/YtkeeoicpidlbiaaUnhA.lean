/-
  Plain facts on Unhex, and the contract of spec.Unhex.
-/
import Derived.Test.YtkeeoicpidlbiaaKit
namespace Go.Proofs.Ytkeeoicpidlbiaa.unh
open Go.RowKit
open kit

def hvI (x : Int) : Int := if 48 ≤ x ∧ x ≤ 57 then x - 48 else if 97 ≤ x ∧ x ≤ 102 then x - 97 + 10 else -1
theorem hvI_bd (x : Int) : -1 ≤ hvI x ∧ hvI x ≤ 15 := by unfold hvI; split <;> (try split) <;> omega

/-- byte j of a text -/
def bt (s : ByteArray) (j : Nat) : Int := ((s.data.toList.getD j 0).toNat : Int)
theorem bt_eq (s : ByteArray) (j : Nat) (h : j < s.size) : bt s j = (s[j].toNat : Int) := by
  unfold bt
  have h' : j < s.data.toList.length := by simpa using h
  simp only [List.getD, List.getElem?_eq_getElem h', Option.getD_some]
  rfl

def okAt (s : ByteArray) (i : Nat) : Bool := decide (0 ≤ hvI (bt s (2 * i))) && decide (0 ≤ hvI (bt s (2 * i + 1)))
def okTo (s : ByteArray) (n : Nat) : Bool := (List.range n).all (okAt s)
def uI (s : ByteArray) (n : Nat) : List Int := (List.range n).map fun i => 16 * hvI (bt s (2 * i)) + hvI (bt s (2 * i + 1))

theorem okTo_succ (s : ByteArray) (k : Nat) : okTo s (k + 1) = (okTo s k && okAt s k) := by simp [okTo, List.range_succ]
theorem okTo_no (s : ByteArray) (k n : Nat) (hk : k < n) (h : okAt s k = false) : okTo s n = false := by
  unfold okTo
  rw [List.all_eq_false]
  exact ⟨k, List.mem_range.2 hk, by simp [h]⟩
theorem uI_succ (s : ByteArray) (k : Nat) : uI s (k + 1) = uI s k ++ [16 * hvI (bt s (2 * k)) + hvI (bt s (2 * k + 1))] := by simp [uI, List.range_succ]
theorem uI_length (s : ByteArray) (k : Nat) : (uI s k).length = k := by simp [uI]

def unhV (s : ByteArray) : Value := if okTo s (s.size / 2) = true then .tuple #[.string (strOfNums (uI s (s.size / 2))), .bool true] else .tuple #[.string { data := #[] }, .bool false]
theorem unhV_yes (s : ByteArray) (h : okTo s (s.size / 2) = true) : unhV s = .tuple #[.string (strOfNums (uI s (s.size / 2))), .bool true] := if_pos h
theorem unhV_no (s : ByteArray) (h : okTo s (s.size / 2) = false) : unhV s = .tuple #[.string { data := #[] }, .bool false] := if_neg (by simp [h])

theorem value_any (x : Int) (w : World) (h0 : 0 ≤ x) (h1 : x ≤ 255) :
    Calls Try.prog 19 #[.int .u8 x] w fun e w' => e = .returned (.int .i64 (hvI x)) ∧ w = w' := by
  by_cases ha : 48 ≤ x ∧ x ≤ 57
  · have E := Lib.hid (show hvI x = x - 48 from if_pos ha)
    obtain ⟨ha1, ha2⟩ := ha
    go_enter Try.func19, Try.ntmps19
    go_wp2
    go_ret
    exact ⟨by rw [E.out]; rfl, rfl⟩
  · by_cases hb : 97 ≤ x ∧ x ≤ 102
    · have E := Lib.hid (show hvI x = x - 97 + 10 by unfold hvI; rw [if_neg ha, if_pos hb])
      obtain ⟨hb1, hb2⟩ := hb
      clear ha
      go_enter Try.func19, Try.ntmps19
      go_wp2
      go_ret
      exact ⟨by rw [E.out]; rfl, rfl⟩
    · have E := Lib.hid (show hvI x = -1 by unfold hvI; rw [if_neg ha, if_neg hb])
      have hc : x < 48 ∨ (57 < x ∧ x < 97) ∨ 102 < x := by omega
      clear ha hb
      rcases hc with hc | ⟨hc, hd⟩ | hc
      all_goals
        go_enter Try.func19, Try.ntmps19
        go_wp2
        go_ret
        exact ⟨by rw [E.out]; rfl, rfl⟩

theorem Try.info5 : (Try.prog.info? 5).map (fun i => (i.zero, i.size, i.bytes)) = some (some (.int .u8 0), 1, 1) := by kernel_rfl

set_option maxHeartbeats 400000 in
theorem specUnhex_any (s : ByteArray) (w : World) (hs : s.size ≤ 40000) (he : s.size % 2 = 0) :
    Calls Try.prog 9 #[.string s] w fun e w' => e = .returned (unhV s) ∧ Below w.heap.size w w' := by
  obtain ⟨i0, hi, hz0, hz1, hz2⟩ := info_parts Try.info5
  have hne : (((s.size : Int) % 2) != 0) = false := by rw [bne_eq_false_iff_eq]; omega
  have HE := Lib.hid he
  clear he
  go_enter Try.func9, Try.ntmps9
  go_wp2
  go_loopw [4, 5, 6, 7] (fun v i _ _ wr => ∃ k : Nat, 2 * k ≤ s.size ∧ i = .int .i64 ((2 * k : Nat) : Int) ∧ okTo s k = true ∧ wr.ownsRow w.heap.size 5 1 v k ((uI s k).map (Value.int .u8)) ∧ Below w.heap.size w wr) (fun _ i _ _ _ => s.size - (intOf i).toNat)
  case atStart => exact ⟨0, Nat.zero_le _, rfl, rfl, World.ownsRow_made _ _ _ (Nat.le_refl _) (by decide) rfl, (Below.refl _ _).alloc (Nat.le_refl _) _⟩
  case round =>
    obtain ⟨k, hk, rfl, hok, hown, hb⟩ := hrel
    have HK := Lib.hid hok
    clear hok
    by_cases hlt : 2 * k < s.size
    · have hlt2 : 2 * k + 1 < s.size := by have := HE.out; omega
      have hc1 : s[2 * k].toNat < 256 := s[2 * k].toNat_lt
      have hc2 : s[2 * k + 1].toNat < 256 := s[2 * k + 1].toNat_lt
      have b1 := hvI_bd (s[2 * k].toNat : Int)
      have b2 := hvI_bd (s[2 * k + 1].toNat : Int)
      have e1 := Lib.hid (bt_eq s (2 * k) hlt)
      have e2 := Lib.hid (bt_eq s (2 * k + 1) hlt2)
      by_cases h1 : hvI (s[2 * k].toNat : Int) < 0
      · have hno := Lib.hid (unhV_no s (okTo_no s k _ (by omega) (by unfold okAt; rw [e1.out]; simp; omega)))
        go_wp2_with (go_at_call 19; refine (value_any _ _ ?_ ?_).mono ?_; omega; omega; rintro e w' ⟨rfl, rfl⟩)
        go_ret2
        exact ⟨by rw [hno.out]; rfl, hb⟩
      · by_cases h2 : hvI (s[2 * k + 1].toNat : Int) < 0
        · have hno := Lib.hid (unhV_no s (okTo_no s k _ (by omega) (by unfold okAt; rw [e2.out]; simp; omega)))
          go_wp2_with (go_at_call 19; refine (value_any _ _ ?_ ?_).mono ?_; omega; omega; rintro e w' ⟨rfl, rfl⟩)
          go_ret2
          exact ⟨by rw [hno.out]; rfl, hb⟩
        · have hyes := Lib.hid (show okAt s k = true by unfold okAt; rw [e1.out, e2.out]; simp; omega)
          go_wp2_with (first | (go_at_call 19; refine (value_any _ _ ?_ ?_).mono ?_; omega; omega; rintro e w' ⟨rfl, rfl⟩) | (at_builtin; refine list_app (by rfl) (.tmp 39) (.tmp 45) 32 (by rfl) w wr 5 i0 (.int .u8 0) 1 Try.underlying32 hi hz0 hz1 hz2 (by rfl) _ k _ hown hb [.int .u8 _] 1 ?_ ?_ ?_ ?_ (by rfl) (by rfl) (by rfl) ?_ ?_; rfl; simp [Value.oneCell']; unfold maxLen; omega; omega; exact ⟨rfl, rfl, rfl⟩; intro v' w' hown' hb'))
          go_roundw
          case rel => exact ⟨k + 1, by omega, by go_num, by rw [okTo_succ, HK.out, hyes.out]; rfl, by rw [uI_succ, e1.out, e2.out]; simpa using hown', hb'⟩
          case measure => simp [intOf]; omega
    · have hcv := conv_own Try.underlying32 Try.underlying5 hown
      have hkk : s.size / 2 = k := by omega
      have hyes := Lib.hid (unhV_yes s (by rw [hkk]; exact HK.out))
      have HKK := Lib.hid hkk
      clear hkk
      go_wp2
      go_ret2
      exact ⟨by rw [hyes.out, HKK.out]; rfl, hb⟩

theorem specUnhex_odd (s : ByteArray) (w : World) (hm : s.size ≤ 9223372036854775807) (he : 40000 < s.size ∨ s.size % 2 = 1) :
    Calls Try.prog 9 #[.string s] w fun e w' => e = .returned (.tuple #[.string { data := #[] }, .bool false]) ∧ w = w' := by
  by_cases h : 40000 < s.size
  · clear he
    go_enter Try.func9, Try.ntmps9
    go_wp2
    go_ret2
    exact ⟨rfl, rfl⟩
  · have hne : (((s.size : Int) % 2) != 0) = true := by rw [bne_iff_ne]; omega
    clear he
    go_enter Try.func9, Try.ntmps9
    go_wp2
    go_ret2
    exact ⟨rfl, rfl⟩

end Go.Proofs.Ytkeeoicpidlbiaa.unh
